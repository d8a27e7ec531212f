package run_test

import (
	"math/big"
	"slices"
	"strconv"
	"strings"

	"lapidary/api"
	"lapidary/kernel"
	"lapidary/tree"
)

// A plain model of what a source means: its tree is walked, errors and Returns are panics, and objects are Go's own. Its values are nil, bool, int64 (small numbers), *big.Int (great ones), *closure, *thing, and className (a class).

type className string

type thing struct {
	class string
	slots []any
	bytes string
}

type closure struct {
	node tree.Node
	in   *active
}

// active is a unit that is run.
type active struct {
	names map[string]any
	args  []string
	outer *active
	home  *active
	self  any
	class string
	ended bool
}

type fails struct{ text string }

type leaves struct {
	home *active
	x    any
}

// enough ends a model for which no step is left.
type enough struct{}

type kind struct {
	super   string
	slots   []string
	methods map[string]string
	natives []string
}

type model struct {
	kinds map[string]*kind
	root  []any
	limit int64
	steps int64
	depth int
	made  int
}

func newModel(limit int64) *model {
	m := &model{kinds: map[string]*kind{}, limit: limit}
	for c := int64(1); c <= 14; c++ {
		k := &kind{super: kernel.Name(kernel.Super(c)), methods: map[string]string{}, natives: kernel.Natives(c)}
		m.kinds[kernel.Name(c)] = k
		for _, s := range kernel.Sources(c) {
			m.define(kernel.Name(c), s)
		}
	}
	return m
}

func (m *model) define(class, source string) {
	n, _, _ := tree.Method(source)
	m.kinds[class].methods[n.Text] = source
}

// run is what comes of a source: as came tells it, or "enough".
func (m *model) run(source string) (out string) {
	n, _, _ := tree.Parse(source)
	a := &active{names: map[string]any{}, class: "UndefinedObject"}
	a.home = a
	defer func() {
		switch p := recover().(type) {
		case nil:
		case fails:
			out = "! " + p.text
		case leaves:
			out = m.show(p.x, 6)
		case enough:
			out = "enough"
		default:
			panic(p)
		}
	}()
	return m.show(m.unit(n, a), 6)
}

func (m *model) unit(n tree.Node, a *active) any {
	a.args = n.Names[:n.N]
	for _, name := range n.Names[n.N:] {
		a.names[name] = nil
	}
	var last any
	for _, part := range n.Kids {
		last = m.eval(part, a)
	}
	if n.Kind == tree.Unit && n.Text != "" {
		return a.self
	}
	return last
}

func (m *model) step() {
	if m.steps == m.limit {
		panic(enough{})
	}
	m.steps++
}

// call runs a method or a block.
func (m *model) call(n tree.Node, a *active, args []any) (x any) {
	if m.depth == api.MaxDepth {
		panic(fails{"too deep"})
	}
	m.step()
	m.depth++
	defer func() { m.depth--; a.ended = true }()
	a.names = map[string]any{}
	for i, arg := range args {
		a.names[n.Names[i]] = arg
	}
	if n.Kind == tree.Unit {
		defer func() {
			switch p := recover().(type) {
			case nil:
			case leaves:
				if p.home != a {
					panic(p)
				}
				x = p.x
			default:
				panic(p)
			}
		}()
	}
	return m.unit(n, a)
}

func (m *model) block(b *closure, args ...any) any {
	if b.node.N != len(args) {
		panic(fails{"wrong number of arguments"})
	}
	return m.call(b.node, &active{outer: b.in, home: b.in.home, self: b.in.self, class: b.in.class}, args)
}

func (m *model) new(o *thing) any {
	m.made++
	return o
}

func (m *model) text(class, s string) any {
	if len(s) > api.MaxBytes {
		panic(fails{"wrong argument"})
	}
	return m.new(&thing{class: class, bytes: s})
}

func (m *model) number(n *big.Int) any {
	if n.IsInt64() && n.Int64() >= -api.Small && n.Int64() < api.Small {
		return n.Int64()
	}
	if len(n.Bytes()) > api.MaxDigits {
		panic(fails{"too large"})
	}
	m.made++
	return n
}

func (m *model) literal(n tree.Node) any {
	switch n.Kind {
	case tree.Num:
		k, _ := new(big.Int).SetString(n.Text, 10)
		return m.number(k)
	case tree.Str:
		return m.text("String", n.Text)
	case tree.Sym:
		return m.text("Symbol", n.Text)
	case tree.Word:
		return map[string]any{"true": true, "false": false}[n.Text]
	}
	var slots []any
	for _, part := range n.Kids {
		slots = append(slots, m.literal(part))
	}
	return m.new(&thing{class: "Array", slots: slots})
}

func (m *model) eval(n tree.Node, a *active) any {
	switch n.Kind {
	case tree.Var:
		return m.read(n.Text, a)
	case tree.Set:
		x := m.eval(n.Kids[0], a)
		m.write(n.Text, a, x)
		return x
	case tree.Send:
		self := m.eval(n.Kids[0], a)
		return m.send(n.Kids[0], a, self, n.Text, n.Kids[1:])
	case tree.Casc:
		self := m.eval(n.Kids[0], a)
		var last any
		for _, k := range n.Kids[1:] {
			last = m.send(n.Kids[0], a, self, k.Text, k.Kids)
		}
		return last
	case tree.Block:
		return &closure{n, a}
	case tree.Return:
		x := m.eval(n.Kids[0], a)
		if a.home.ended {
			panic(fails{"can not return"})
		}
		panic(leaves{a.home, x})
	}
	return m.literal(n)
}

// has is the unit that has a name, and whether there is one.
func (a *active) has(name string) (*active, bool) {
	for ; a != nil; a = a.outer {
		if _, is := a.names[name]; is {
			return a, true
		}
	}
	return nil, false
}

func (m *model) names(class string) []string {
	k := m.kinds[class]
	if k == nil {
		return nil
	}
	return append(slices.Clone(m.names(k.super)), k.slots...)
}

func (m *model) slot(name string, a *active) (*any, bool) {
	i := slices.Index(m.names(a.class), name)
	o, is := a.self.(*thing)
	if i < 0 || !is {
		return nil, false
	}
	return &o.slots[i], true
}

func (m *model) read(name string, a *active) any {
	switch name {
	case "self", "super":
		return a.self
	case "nil":
		return nil
	case "true", "false":
		return name == "true"
	}
	if u, is := a.has(name); is {
		return u.names[name]
	}
	if s, is := m.slot(name, a); is {
		return *s
	}
	if m.kinds[name] != nil {
		return className(name)
	}
	for i := 0; i < len(m.root); i += 2 {
		if m.root[i] == name {
			return m.root[i+1]
		}
	}
	panic(fails{"no such name"})
}

func (m *model) write(name string, a *active, x any) {
	if u, is := a.has(name); is {
		u.names[name] = x
		return
	}
	s, _ := m.slot(name, a)
	if _, is := x.(*closure); is {
		panic(fails{"can not be kept"})
	}
	*s = x
}

func (m *model) classOf(x any) string {
	switch x := x.(type) {
	case nil:
		return "UndefinedObject"
	case bool:
		if x {
			return "True"
		}
		return "False"
	case int64, *big.Int:
		return "Integer"
	case *closure:
		return "Block"
	case className:
		return "Class"
	}
	return x.(*thing).class
}

func (m *model) send(receiver tree.Node, a *active, self any, selector string, parts []tree.Node) any {
	var args []any
	for _, part := range parts {
		args = append(args, m.eval(part, a))
	}
	m.step()
	c := m.classOf(self)
	if receiver.Kind == tree.Var && receiver.Text == "super" {
		c = m.kinds[a.class].super
	}
	for ; c != ""; c = m.kinds[c].super {
		if source, is := m.kinds[c].methods[selector]; is {
			n, _, _ := tree.Method(source)
			u := &active{self: self, class: c}
			u.home = u
			return m.call(n, u, args)
		}
		if slices.Contains(m.kinds[c].natives, selector) {
			return m.native(c, selector, self, args)
		}
	}
	panic(fails{"does not understand " + selector})
}

func (m *model) show(x any, nest int) string {
	switch x := x.(type) {
	case nil:
		return "nil"
	case bool:
		return strconv.FormatBool(x)
	case int64:
		return strconv.FormatInt(x, 10)
	case *big.Int:
		return "large " + x.String()
	case *closure:
		return "a block"
	case className:
		return "class " + string(x)
	}
	o := x.(*thing)
	switch {
	case o.class == "String":
		return strconv.Quote(o.bytes)
	case o.class == "Symbol":
		return "#" + o.bytes
	case nest == 0:
		return ".."
	}
	var parts []string
	for _, y := range o.slots {
		parts = append(parts, m.show(y, nest-1))
	}
	return o.class + "(" + strings.Join(parts, " ") + ")"
}
