package code_test

import (
	"math/rand"
	"slices"
	"strings"
	"testing"

	"lapidary/api"
	"lapidary/code"
	"lapidary/tree"
)

var slots = []string{"x", "y", "a", "x"}

// grower writes a source at random, whose names are all known.
type grower struct {
	strings.Builder
	*rand.Rand
	read []string // the names that may be used
	set  []string // those that may be set
}

func newGrower(r *rand.Rand) *grower {
	return &grower{Rand: r, read: strings.Fields("self nil false true x y a A B C"), set: strings.Fields("x y a")}
}

func (g *grower) write(texts ...string) {
	for _, s := range texts {
		g.WriteString(s)
	}
}

func (g *grower) one(texts ...string) string { return texts[g.Intn(len(texts))] }

// names takes names for a unit: arguments of some letters, temps of others, so that none is hidden by another that can not be set.
func (g *grower) names() (args, temps []string) {
	return strings.Fields("p q r")[:g.Intn(4)], strings.Fields("a b c")[:g.Intn(4)]
}

func (g *grower) unit(args, temps []string, size int) {
	read, set := g.read, g.set
	g.read, g.set = slices.Concat(read, args, temps), slices.Concat(set, temps)
	if len(temps) > 0 {
		g.write("| ", strings.Join(temps, " "), " | ")
	}
	count := g.Intn(4)
	for i := range count {
		if i > 0 {
			g.write(". ")
		}
		if i == count-1 && g.Intn(3) == 0 {
			g.write("^")
		}
		g.expression(size)
	}
	g.read, g.set = read, set
}

func (g *grower) source() {
	_, temps := g.names()
	g.unit(nil, temps, 5)
}

func (g *grower) method() {
	args, temps := g.names()
	if len(args) == 0 {
		g.write("foo ")
	}
	for _, name := range args {
		g.write("k: ", name, " ")
	}
	g.unit(args, temps, 5)
}

func (g *grower) block(size int) {
	args, temps := g.names()
	g.write("[")
	for _, name := range args {
		g.write(":", name, " ")
	}
	if len(args) > 0 {
		g.write("| ")
	}
	g.unit(args, temps, size)
	g.write("]")
}

func (g *grower) expression(size int) {
	for size > 0 && g.Intn(3) == 0 {
		g.write(g.one(g.set...), " := ")
	}
	messages := g.Intn(4)
	if messages > 0 && g.Intn(4) == 0 {
		g.write("super")
	} else {
		g.operand(size)
	}
	between := g.Intn(4) // so many messages are sent to what came of the one ahead, the others to one receiver
	for i := range messages {
		if i > between {
			g.write(";")
		}
		g.message(size - 1)
	}
}

func (g *grower) message(size int) {
	if g.Intn(3) == 0 {
		g.write(g.one(" foo", " bar"))
		return
	}
	g.write(g.one(" + ", " - "))
	g.operand(size)
}

func (g *grower) operand(size int) {
	kind := g.Intn(7)
	if size <= 0 {
		kind = 3 + g.Intn(4)
	}
	switch kind {
	case 0:
		g.write("(")
		g.expression(size - 1)
		g.write(")")
	case 1:
		g.block(size - 1)
	case 2:
		g.keyed(size - 1)
	case 3:
		g.write(g.one("3", "4", "'a'", "#a", "#'a'", "#foo:", "#(a 3 (nil))", "#(#a 3 #(nil))", "#()"))
	default:
		g.write(g.one(g.read...))
	}
}

func (g *grower) keyed(size int) {
	g.write("(")
	g.operand(size)
	for range 1 + g.Intn(3) {
		g.write(g.one(" k: ", " at: "))
		g.operand(size)
	}
	if g.Intn(2) == 0 {
		g.write("; at: ")
		g.operand(size)
	}
	g.write(")")
}

// grown calls f with trees, and what they are as steps, till it has had so many.
func grown(t *testing.T, seed int64, count int, f func(s string, n tree.Node, c code.Code)) {
	t.Helper()
	r := rand.New(rand.NewSource(seed))
	for count > 0 {
		g, read, make := newGrower(r), tree.Parse, makes(code.Compile)
		if r.Intn(2) == 0 {
			g.source()
		} else {
			read, make = tree.Method, code.Method
			g.method()
		}
		n, at, err := read(g.String())
		if err == api.ErrSize {
			continue
		}
		if err != api.OK {
			t.Fatalf("%q is no source: %d %v", g.String(), at, err)
		}
		c, at, err := make(g.String(), slots)
		if err != api.OK || at != 0 {
			t.Fatalf("%q: %d %v", g.String(), at, err)
		}
		f(g.String(), n, c)
		count--
	}
}

// P10.3: whatever is made checks, with the slots that it was made for.
func TestMadeChecks(t *testing.T) {
	deepest, units := 0, 0
	grown(t, 103, 10000, func(s string, n tree.Node, c code.Code) {
		if err := code.Check(c, len(slots)); err != api.OK {
			t.Fatalf("%q: %s: %v", s, dump(c), err)
		}
		for _, u := range c.Units {
			depth := code.Depth(u)
			if depth < 1 {
				t.Fatalf("%q: %s: %d", s, dump(c), depth)
			}
			deepest = max(deepest, depth)
		}
		units += len(c.Units)
	})
	if deepest < 6 || units < 20000 {
		t.Error("sources that are too small:", deepest, units)
	}
}

// P10.1: Make of a tree is Compile, or Method, of its source.
func TestMake(t *testing.T) {
	grown(t, 101, 2000, func(s string, n tree.Node, c code.Code) {
		d, at, err := code.Make(n, slots)
		if dump(d) != dump(c) || at != 0 || err != api.OK {
			t.Fatalf("%q: %s %d %v, want %s", s, dump(d), at, err, dump(c))
		}
		if d.Sel != n.Text {
			t.Fatalf("%q: the selector %q", s, d.Sel)
		}
	})
}

// P10.1: the steps say all that the tree says: the tree can be made of them again.
func TestUndone(t *testing.T) {
	grown(t, 102, 10000, func(s string, n tree.Node, c code.Code) {
		u := &undoer{Code: c, trees: unitsOf(n)}
		if len(u.trees) != len(c.Units) {
			t.Fatalf("%q: %s", s, dump(c))
		}
		got := u.unit(0, nil)
		if got, want := tree.Text(got), tree.Text(short(n)); got != want || u.wrong != "" {
			t.Fatalf("%q: %s is %q, want %q %s", s, dump(c), got, want, u.wrong)
		}
	})
}

// P10.1: the lists have each text once, in the order in which steps need it first; so are the units.
func TestFirstNeeded(t *testing.T) {
	grown(t, 104, 5000, func(s string, n tree.Node, c code.Code) {
		var lits, names, sels []string
		units := 1
		need := func(list *[]string, text string) {
			if !slices.Contains(*list, text) {
				*list = append(*list, text)
			}
		}
		var follow func(at int)
		follow = func(at int) {
			for _, x := range c.Units[at].Ins {
				switch x.Op {
				case code.Lit:
					need(&lits, c.Lits[x.A])
				case code.Global:
					need(&names, c.Names[x.A])
				case code.Send, code.Super:
					need(&sels, c.Sels[x.A])
				case code.Block:
					if x.A != units {
						t.Fatalf("%q: the block %d, want %d: %s", s, x.A, units, dump(c))
					}
					units++
					follow(x.A)
				}
			}
		}
		follow(0)
		if !slices.Equal(lits, c.Lits) || !slices.Equal(names, c.Names) || !slices.Equal(sels, c.Sels) || units != len(c.Units) {
			t.Fatalf("%q: %s, want %q %q %q", s, dump(c), lits, names, sels)
		}
	})
}

// P7: bytes of any kind end in an error, or in steps that check.
func TestAnyBytes(t *testing.T) {
	r := rand.New(rand.NewSource(105))
	const bytes = "ab:=[]().;^|#'\"+- 019A_\x00\xff"
	for range 50000 {
		b := make([]byte, r.Intn(12))
		for i := range b {
			b[i] = bytes[r.Intn(len(bytes))]
		}
		for _, f := range []makes{code.Compile, code.Method} {
			c, at, err := f(string(b), []string{"a", "b"})
			if err == api.OK && (at != 0 || code.Check(c, 2) != api.OK) || err != api.OK && (at < 0 || at > len(b) || len(c.Units) > 0) {
				t.Fatalf("%q: %s %d %v", b, dump(c), at, err)
			}
		}
	}
}
