package code

import (
	"slices"

	"lapidary/scope"
	"lapidary/tree"
)

// maker makes the lists of a Code; uses are those names of the tree that are still to come.
type maker struct {
	Code
	uses []scope.Use
}

// body is the steps of one unit, with the lists that are the same for all units.
type body struct {
	*maker
	steps []Ins
}

// unit makes a unit and those within it, and answers its place. The place is taken first, as the others stand behind it.
func (m *maker) unit(n tree.Node) int {
	at := len(m.Units)
	m.Units = append(m.Units, Unit{Args: n.N, Names: len(n.Names)})
	b := &body{maker: m}
	b.statements(n)
	m.Units[at].Ins = b.steps
	return at
}

// use takes the next name: the tree is gone through as scope does it.
func (m *maker) use() scope.Use {
	x := m.uses[0]
	m.uses = m.uses[1:]
	return x
}

// place is where a text stands in a list, at whose end it is put if it does not.
func place(list *[]string, text string) int {
	at := slices.Index(*list, text)
	if at < 0 {
		at = len(*list)
		*list = append(*list, text)
	}
	return at
}

func (b *body) put(steps ...Ins) { b.steps = append(b.steps, steps...) }

func (b *body) statements(n tree.Node) {
	last := 0
	for i, part := range n.Kids {
		if i > 0 {
			b.put(Ins{Op: Pop})
		}
		b.part(part)
		last = part.Kind
	}
	switch {
	case last == tree.Return:
		b.put(Ins{Op: Return})
	case n.Kind == tree.Unit && n.Text != "":
		b.methodEnd(len(n.Kids) > 0)
	case len(n.Kids) == 0:
		b.put(Ins{Op: Const}, Ins{Op: End})
	default:
		b.put(Ins{Op: End})
	}
}

// methodEnd makes a method answer its object, as it has no Return.
func (b *body) methodEnd(value bool) {
	if value {
		b.put(Ins{Op: Pop})
	}
	b.put(Ins{Op: Self}, Ins{Op: Return})
}

func (b *body) parts(parts []tree.Node) {
	for _, n := range parts {
		b.part(n)
	}
}

// part makes the steps of a part; of a Return those of what it returns alone, as it is the last one of a unit.
func (b *body) part(n tree.Node) {
	switch n.Kind {
	case tree.Var:
		b.read(b.use())
	case tree.Set:
		x := b.use()
		b.parts(n.Kids)
		b.write(x)
	case tree.Send:
		b.part(n.Kids[0])
		b.message(sends(n), n.Text, n.Kids[1:])
	case tree.Casc:
		b.cascade(n)
	case tree.Block:
		b.put(Ins{Op: Block, A: b.unit(n)})
	case tree.Return:
		b.parts(n.Kids)
	default:
		b.put(Ins{Op: Lit, A: place(&b.Lits, tree.Text(n))})
	}
}

func (b *body) read(x scope.Use) {
	switch x.Kind {
	case scope.Temp:
		b.put(Ins{Op: Temp, A: x.Depth, B: x.Index})
	case scope.Slot:
		b.put(Ins{Op: Slot, A: x.Index})
	case scope.Global:
		b.put(Ins{Op: Global, A: place(&b.Names, x.Name)})
	case scope.Const:
		b.put(Ins{Op: Const, A: x.Index})
	default:
		b.put(Ins{Op: Self})
	}
}

func (b *body) write(x scope.Use) {
	if x.Kind == scope.Slot {
		b.put(Ins{Op: SetSlot, A: x.Index})
		return
	}
	b.put(Ins{Op: SetTemp, A: x.Depth, B: x.Index})
}

// sends is the step by which the messages of a Send or a Casc are sent.
func sends(n tree.Node) int {
	if receiver := n.Kids[0]; receiver.Kind == tree.Var && receiver.Text == "super" {
		return Super
	}
	return Send
}

func (b *body) message(op int, selector string, args []tree.Node) {
	b.parts(args)
	b.put(Ins{Op: op, A: place(&b.Sels, selector), B: len(args)})
}

func (b *body) cascade(n tree.Node) {
	op, last := sends(n), len(n.Kids)-1
	b.part(n.Kids[0])
	for _, m := range n.Kids[1:last] {
		b.put(Ins{Op: Dup})
		b.message(op, m.Text, m.Kids)
		b.put(Ins{Op: Pop})
	}
	b.message(op, n.Kids[last].Text, n.Kids[last].Kids)
}
