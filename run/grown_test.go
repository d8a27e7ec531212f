package run_test

import (
	"math/rand"
	"strings"
	"testing"

	"lapidary/api"
	"lapidary/code"
	"lapidary/view"
)

// methods are those of the classes P, with the slots x and y, and Q below it, in grown worlds.
var methods = []struct{ class, source string }{
	{"P", "x ^x"}, {"P", "x: n x := n"}, {"P", "y ^y"}, {"P", "y: n ^y := n"},
	{"P", "down: n ^n < 1 ifTrue: [x] ifFalse: [1 + (self down: n - 1)]"},
	{"P", "find: b 1 to: 3 do: [:i | (b value: i) ifTrue: [^i]]. ^nil"},
	{"P", "late ^[:n | ^n]"},
	{"P", "guard: b ^[b value] ensure: [x := 7]"},
	{"P", "try: b [b value. ^y := 1] ensure: [y := 3]. ^9"},
	{"P", "save: b ^[b value] onError: [:e | y := e. self x]"},
	{"P", "again: b | n | n := 0. [n < 3] whileTrue: [n := n + 1. x := b value]. ^n"},
	{"P", "through: b ^[[b value] ensure: [^y]] onError: [:e | ^e]"},
	{"P", "loop ^self loop"},
	{"P", "+ o ^x + o"},
	{"Q", "x ^super x"}, {"Q", "down: n ^super down: n - 1"}, {"Q", "own ^[:n | super y: n]"}, {"Q", "+ o ^[super + o] onError: [^o]"}, {"Q", "size ^42"},
	{"Object", "size ^99"}, {"Integer", "* o ^self - o"}, {"Block", "twice ^[self value. self value]"}, {"UndefinedObject", "foo ^super foo"},
}

func grownWorld(t testing.TB) *view.View {
	v := world(t, nil)
	do(t, v, "Object subclass: #P slots: 'x y'", "P subclass: #Q slots: ''")
	for _, m := range methods {
		do(t, v, m.class+" compile: '"+strings.ReplaceAll(m.source, "'", "''")+"'")
	}
	return v
}

func grownModel(limit int64) *model {
	m := newModel(limit)
	m.kinds["P"] = &kind{super: "Object", slots: []string{"x", "y"}, methods: map[string]string{}}
	m.kinds["Q"] = &kind{super: "P", methods: map[string]string{}}
	for _, k := range methods {
		m.define(k.class, k.source)
	}
	return m
}

// grower grows sources at random: now and then of parts of any kind, mostly of those that are asked for.
type grower struct {
	*rand.Rand
	names []string // that are known where it grows
	next  int      // for new ones
}

func (g *grower) pick(list ...string) string { return list[g.Intn(len(list))] }

func (g *grower) now(one int) bool { return g.Intn(one) == 0 }

func (g *grower) unit() string {
	g.names = []string{"a", "b", "p", "q"}
	return "| a b n p q | n := a := 0. p := P new. q := Q new. p x: 1. " + g.statements(1+g.Intn(5), 5)
}

func (g *grower) statements(n, nest int) string {
	var parts []string
	for i := range n {
		s := g.any(nest)
		switch {
		case i == n-1 && g.now(8):
			s = "^" + s
		case g.now(3):
			s = "a := " + g.number(nest)
		case g.now(3):
			s = "b := " + s
		case g.now(4):
			s = "[" + s + "] onError: [:e | b := e]"
		}
		parts = append(parts, s)
	}
	return strings.Join(parts, ". ")
}

// block grows a block with so many arguments, now and then something else.
func (g *grower) block(args, nest int) string {
	if g.now(30) {
		return g.any(nest - 1)
	}
	if g.now(30) {
		args = g.Intn(3)
	}
	old, out := g.names, "["
	for range args {
		g.next++
		name := "v" + strings.Repeat("i", g.next%7)
		out += ":" + name + " "
		g.names = append(g.names[:len(g.names):len(g.names)], name)
	}
	if args > 0 {
		out += "| "
	}
	out += g.statements(g.Intn(3), nest-1) + "]"
	g.names = old
	return out
}

func (g *grower) leaf() string {
	switch g.Intn(7) {
	case 0, 1, 2:
		return g.pick(g.names...)
	case 3:
		return g.pick("0", "1", "2", "3", "7", "1152921504606846975", "1152921504606846976")
	case 4:
		return g.pick("'a'", "''", "#a", "#b", "#(1 2 3)", "#(a #(b) 'c')", "'xyz'")
	case 5:
		return g.pick("nil", "true", "false", "self", "P", "Q", "Object", "Zork", "Array", "Dictionary", "RcCounter")
	}
	return g.pick("P new", "Q new", "Dictionary new", "RcCounter new", "(1 // 0)", "(0 - 1152921504606846976)")
}

func (g *grower) number(nest int) string {
	if g.now(25) {
		return g.any(nest - 1)
	}
	if nest <= 0 {
		return g.pick("0", "1", "2", "5", "a", "1152921504606846975", "1152921504606846976")
	}
	x, y := g.number(nest-1-g.Intn(2)), g.number(nest-1-g.Intn(3))
	switch g.Intn(8) {
	case 0, 1, 2:
		return "(" + x + " " + g.pick("+", "-", "*", "//", `\\`) + " " + y + ")"
	case 3:
		return "(" + x + " " + g.pick("negated", "abs", "yourself") + ")"
	case 4:
		return "(" + x + " max: " + y + ")"
	case 5:
		return "(" + g.pick("#(1 2)", "'abc'", "#abc", "p", "q") + " size)"
	case 6:
		return "([" + g.statements(1, nest-1) + ". " + x + "] " + g.pick("value", "ensure: "+g.block(0, nest), "onError: "+g.block(0, nest)) + ")"
	}
	return "(" + g.pick("p", "q") + " down: " + y + " \\\\ 30)"
}

func (g *grower) truth(nest int) string {
	if g.now(25) {
		return g.any(nest - 1)
	}
	if nest <= 0 {
		return g.pick("true", "false")
	}
	switch g.Intn(6) {
	case 0, 1:
		return "(" + g.number(nest-1) + " " + g.pick("<", "<=", ">", ">=", "=", "~=") + " " + g.number(nest-1) + ")"
	case 2:
		return "(" + g.any(nest-1) + " " + g.pick("=", "==", "~=") + " " + g.any(nest-1) + ")"
	case 3:
		return "(" + g.truth(nest-1) + " " + g.pick("and:", "or:") + " [" + g.truth(nest-1) + "])"
	case 4:
		return "(" + g.any(nest-1) + " isNil)"
	}
	return "(" + g.truth(nest-1) + " not)"
}

// list grows something with places or keys.
func (g *grower) list() string {
	return g.pick("#(1 2 3)", "#(a nil)", "'abc'", "Dictionary new", "(Dictionary new at: 1 put: 2; at: #a put: 'x'; at: 'a' put: 3; yourself)", "b")
}

func (g *grower) any(nest int) string {
	if nest <= 0 {
		return g.leaf()
	}
	less := nest - 1 - g.Intn(2)
	switch g.Intn(24) {
	case 0, 1:
		return g.number(nest)
	case 2:
		return g.truth(nest)
	case 3:
		return "(" + g.block(0, nest) + " value)"
	case 4:
		return "(" + g.block(1, nest) + " value: " + g.any(less) + ")"
	case 5:
		return "(" + g.block(2, nest) + " value: " + g.any(less) + " value: " + g.any(less) + ")"
	case 6, 7:
		return "(" + g.block(0, nest) + " ensure: " + g.block(0, nest) + ")"
	case 8, 9:
		return "(" + g.block(0, nest) + " onError: " + g.block(g.Intn(2), nest) + ")"
	case 10, 11:
		return "(" + g.truth(less) + " ifTrue: " + g.block(0, nest) + " ifFalse: " + g.block(0, nest) + ")"
	case 12:
		return "(" + g.pick("1", "2") + " to: " + g.pick("1", "2", "3") + " do: " + g.block(1, nest) + ")"
	case 13:
		return "([n := 0. [n < " + g.pick("1", "2", "4") + "] whileTrue: [n := n + 1. " + g.any(less) + "]] value)"
	case 14:
		return "(" + g.block(0, nest) + " whileTrue: " + g.block(0, nest) + ")"
	case 15:
		return "(" + g.pick("p", "q") + " x: " + g.any(less) + "; x)"
	case 16, 17:
		return "(" + g.pick("p", "q", "p") + " " + g.pick("guard:", "try:", "save:", "again:", "through:", "guard:", "try:") + " " + g.block(0, nest) + ")"
	case 18:
		return "(" + g.pick("p", "q") + " find: [:v | " + g.truth(less) + "])"
	case 19:
		return "(" + g.pick("p late value: ", "q late value: ", "q own value: ", "p + ", "q + ") + g.any(less) + ")"
	case 20:
		return "(" + g.list() + " at: " + g.pick("1", "2", "#a", "'a'", g.any(less)) + g.pick("", " put: "+g.any(less)) + ")"
	case 21:
		return "(" + g.pick("RcCounter new increment:", "RcCounter new decrement:", "b removeKey:", "b includesKey:", "p error:", "nil ifNil:", "#(1 2) do:", "#(3 4) collect:") + " " + g.pick(g.any(less), g.block(1, less)) + ")"
	case 22:
		return "(" + g.any(less) + " " + g.pick("size", "asString", "asSymbol", "class", "x", "y", "value", "foo", "numArgs", "twice", "loop", "factorial") + ")"
	}
	return "(" + g.pick("super class", "super foo", "super isNil", "p x; yourself; + 3", "q loop", "[p loop] onError: [:e | e]", g.block(g.Intn(3), nest)) + ")"
}

// P15.2, P15.3, P15.5, P4: sources that are grown at random mean what the plain model says: the value or the error, how many steps there were, and how many objects were made; up to any number of steps, in any parts.
func TestGrown(t *testing.T) {
	base := grownWorld(t)
	made := len(base.News())
	random := rand.New(rand.NewSource(8))
	counts := map[string]int{}
	for i := range 3000 {
		g := &grower{Rand: random, next: i}
		source := g.unit()
		if _, _, err := code.Compile(source, nil); err != api.OK {
			counts["no source"]++
			continue
		}
		limit := int64(random.Intn(3000))
		if i%3 == 0 {
			limit = int64(random.Intn(40))
		}
		m := grownModel(limit)
		want := m.run(source)
		v := base.Copy()
		r := start(t, v, source)
		for left := int(limit); !r.Over() && left > 0; {
			part := min(left, 1+random.Intn(1+left))
			r.Go(part)
			left -= part
		}
		r.Go(0)
		got := result(v, r)
		if !r.Over() {
			got = "enough"
		}
		if got != want || r.Steps() != m.steps || len(v.News())-made != m.made {
			t.Fatalf("%s\n%s in %d steps, %d made, want %s in %d, %d made (of %d)", source, got, r.Steps(), len(v.News())-made, want, m.steps, m.made, limit)
		}
		counts[strings.SplitN(got, " ", 2)[0]]++
		if strings.HasPrefix(got, "!") {
			counts[got]++
		}
	}
	t.Log(counts)
}
