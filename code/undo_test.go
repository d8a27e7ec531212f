package code_test

import (
	"lapidary/code"
	"lapidary/tree"
)

// Kinds of parts while a tree is made of steps: what Dup puts there, and a cascade whose last message has not come.
const (
	twice = 100
	open  = 101
)

// undoer makes a tree of steps; what is wrong with them it says at the end. The trees of the units give their names alone.
type undoer struct {
	code.Code
	trees []tree.Node
	wrong string
}

// undone is what has come of a unit's steps so far.
type undone struct {
	*undoer
	chain []int // the units that it stands in, itself first
	stack []tree.Node
	out   []tree.Node
}

func unitsOf(n tree.Node) []tree.Node {
	var out []tree.Node
	if n.Kind == tree.Unit || n.Kind == tree.Block {
		out = append(out, n)
	}
	for _, kid := range n.Kids {
		out = append(out, unitsOf(kid)...)
	}
	return out
}

// short is a tree without what its steps do not tell apart: a method's ^self at the end, and nil as all of another unit.
func short(n tree.Node) tree.Node {
	var kids []tree.Node
	for _, kid := range n.Kids {
		kids = append(kids, short(kid))
	}
	n.Kids = kids
	last := len(kids) - 1
	switch {
	case last < 0:
	case n.Kind == tree.Unit && n.Text != "":
		if kids[last].Kind == tree.Return && isVar(kids[last].Kids[0], "self") {
			n.Kids = kids[:last]
		}
	case n.Kind == tree.Unit || n.Kind == tree.Block:
		if last == 0 && isVar(kids[0], "nil") {
			n.Kids = nil
		}
	}
	return n
}

func isVar(n tree.Node, name string) bool { return n.Kind == tree.Var && n.Text == name }

func (u *undoer) unit(at int, outer []int) tree.Node {
	n := u.trees[at]
	if x := u.Units[at]; x.Args != n.N || x.Names != len(n.Names) {
		u.wrong += " names"
	}
	d := &undone{undoer: u, chain: append([]int{at}, outer...)}
	for _, x := range u.Units[at].Ins {
		d.step(x)
	}
	if len(d.stack) > 0 {
		u.wrong += " left"
	}
	n.Kids = d.out
	return short(n)
}

func (d *undone) push(n tree.Node) { d.stack = append(d.stack, n) }

func (d *undone) pop() tree.Node {
	if len(d.stack) == 0 {
		d.wrong += " empty"
		return tree.Node{}
	}
	n := d.stack[len(d.stack)-1]
	d.stack = d.stack[:len(d.stack)-1]
	return n
}

func (d *undone) name(x code.Ins) string { return d.trees[d.chain[x.A]].Names[x.B] }

func (d *undone) variable(name string) { d.push(tree.Node{Kind: tree.Var, Text: name}) }

func (d *undone) assign(name string) {
	d.push(tree.Node{Kind: tree.Set, Text: name, Kids: []tree.Node{d.pop()}})
}

func (d *undone) step(x code.Ins) {
	switch x.Op {
	case code.Lit:
		n, _, _ := tree.Parse(d.Lits[x.A])
		d.push(n.Kids[0])
	case code.Temp:
		d.variable(d.name(x))
	case code.SetTemp:
		d.assign(d.name(x))
	case code.Slot:
		d.variable(slots[x.A])
	case code.SetSlot:
		d.assign(slots[x.A])
	case code.Global:
		d.variable(d.Names[x.A])
	case code.Self:
		d.variable("self")
	case code.Const:
		d.variable([]string{"nil", "false", "true"}[x.A])
	case code.Send, code.Super:
		d.sent(x)
	case code.Block:
		d.push(d.unit(x.A, d.chain))
	case code.Dup:
		d.push(tree.Node{Kind: twice})
	case code.Pop:
		d.popped(d.pop())
	case code.End:
		d.out = append(d.out, d.pop())
	case code.Return:
		d.out = append(d.out, tree.Node{Kind: tree.Return, Kids: []tree.Node{d.pop()}})
	}
}

func (d *undone) sent(x code.Ins) {
	m := tree.Node{Kind: tree.Msg, Text: d.Sels[x.A], N: x.Op}
	for range x.B {
		m.Kids = append([]tree.Node{d.pop()}, m.Kids...)
	}
	switch receiver := d.pop(); receiver.Kind {
	case twice:
		d.push(m)
	case open:
		receiver = d.more(receiver, m)
		receiver.Kind = tree.Casc
		d.push(receiver)
	default:
		d.push(tree.Node{Kind: tree.Send, Text: m.Text, Kids: append([]tree.Node{d.to(receiver, x.Op)}, m.Kids...)})
	}
}

// to is a receiver as it is written, by the step that sends to it.
func (d *undone) to(receiver tree.Node, op int) tree.Node {
	if op == code.Super {
		if !isVar(receiver, "self") && !isVar(receiver, "super") {
			d.wrong += " super"
		}
		receiver.Text = "super"
	} else if isVar(receiver, "super") {
		d.wrong += " not super"
	}
	return receiver
}

// popped takes what a Pop takes: a message of a cascade, or a statement.
func (d *undone) popped(n tree.Node) {
	if n.Kind != tree.Msg {
		d.out = append(d.out, n)
		return
	}
	receiver := d.pop()
	if receiver.Kind != open {
		receiver = tree.Node{Kind: open, Kids: []tree.Node{d.to(receiver, n.N)}}
	}
	d.push(d.more(receiver, n))
}

func (d *undone) more(casc, m tree.Node) tree.Node {
	casc.Kids[0] = d.to(casc.Kids[0], m.N)
	m.N = 0
	casc.Kids = append(casc.Kids, m)
	return casc
}
