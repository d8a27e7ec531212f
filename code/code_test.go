package code_test

import (
	"strconv"
	"strings"
	"testing"

	"lapidary/api"
	"lapidary/code"
	"lapidary/tree"
)

// steps are the names of the steps, by their numbers; a letter behind one says which of its numbers mean something.
var steps = []string{"lit A", "temp B", "setTemp B", "slot A", "setSlot A", "global A", "self", "const A", "send B", "super B", "block A", "dup", "pop", "end", "return"}

// stepText writes a step; numbers that mean nothing in it are written only if they are not 0.
func stepText(x code.Ins) string {
	name, numbers, _ := strings.Cut(steps[x.Op], " ")
	if numbers != "" || x.A != 0 || x.B != 0 {
		name += " " + strconv.Itoa(x.A)
	}
	if numbers == "B" || x.B != 0 {
		name += " " + strconv.Itoa(x.B)
	}
	return name
}

// unitsText writes units, each as: arguments/names: steps.
func unitsText(c code.Code) string {
	var out []string
	for _, u := range c.Units {
		var list []string
		for _, x := range u.Ins {
			list = append(list, stepText(x))
		}
		out = append(out, strconv.Itoa(u.Args)+"/"+strconv.Itoa(u.Names)+": "+strings.Join(list, ", "))
	}
	return strings.Join(out, " | ")
}

// listsText writes the lists of texts, with a bar between.
func listsText(c code.Code) string {
	return strings.Join(c.Lits, " ") + "|" + strings.Join(c.Names, " ") + "|" + strings.Join(c.Sels, " ")
}

func dump(c code.Code) string { return c.Sel + "> " + unitsText(c) + " <" + listsText(c) }

type makes func(string, []string) (code.Code, int, api.Errno)

// row is a source, its units and its lists.
type row struct{ source, units, lists string }

// made asks for the steps of the sources of a table.
func made(t *testing.T, f makes, selector, slots string, table []row) {
	t.Helper()
	for _, x := range table {
		c, at, err := f(x.source, strings.Fields(slots))
		if want := selector + "> " + x.units + " <" + x.lists; err != api.OK || at != 0 || dump(c) != want {
			t.Errorf("%q: %s %d %v, want %s", x.source, dump(c), at, err, want)
		}
		if err := code.Check(c, len(strings.Fields(slots))); err != api.OK {
			t.Errorf("%q is made and does not check: %v", x.source, err)
		}
	}
}

// P10.1: literals and names.
func TestLeaves(t *testing.T) {
	made(t, code.Compile, "", "x y", []row{
		{"3", "0/0: lit 0, end", "3||"},
		{"'it''s'", "0/0: lit 0, end", "'it''s'||"},
		{"#a:b:", "0/0: lit 0, end", "#a:b:||"},
		{"#'a b'", "0/0: lit 0, end", "#'a b'||"},
		{"#(1 a #(true) 'b')", "0/0: lit 0, end", "#(1 #a #(true) 'b')||"},
		{"self", "0/0: self, end", "||"},
		{"nil", "0/0: const 0, end", "||"},
		{"false", "0/0: const 1, end", "||"},
		{"true", "0/0: const 2, end", "||"},
		{"| a b | b", "0/2: temp 0 1, end", "||"},
		{"x", "0/0: slot 0, end", "||"},
		{"y", "0/0: slot 1, end", "||"},
		{"Root", "0/0: global 0, end", "|Root|"},
		{"| a b | b := 3", "0/2: lit 0, setTemp 0 1, end", "3||"},
		{"y := x", "0/0: slot 0, setSlot 1, end", "||"},
		{"| a | y := a := Root", "0/1: global 0, setTemp 0 0, setSlot 1, end", "|Root|"},
	})
}

// P10.1: messages; the selector comes into its list when it is sent, which is behind its arguments.
func TestMessages(t *testing.T) {
	made(t, code.Compile, "", "x y", []row{
		{"x foo", "0/0: slot 0, send 0 0, end", "||foo"},
		{"x + y", "0/0: slot 0, slot 1, send 0 1, end", "||+"},
		{"x at: 1 put: y", "0/0: slot 0, lit 0, slot 1, send 0 2, end", "1||at:put:"},
		{"x foo bar", "0/0: slot 0, send 0 0, send 1 0, end", "||foo bar"},
		{"x at: (y foo) put: (x + 1)", "0/0: slot 0, slot 1, send 0 0, slot 0, lit 0, send 1 1, send 2 2, end", "1||foo + at:put:"},
		{"x foo: (y := 3)", "0/0: slot 0, lit 0, setSlot 1, send 0 1, end", "3||foo:"},
		{"(y := 3) foo", "0/0: lit 0, setSlot 1, send 0 0, end", "3||foo"},
		{"super foo", "0/0: self, super 0 0, end", "||foo"},
		{"super + x", "0/0: self, slot 0, super 0 1, end", "||+"},
		{"super at: 1 put: 2", "0/0: self, lit 0, lit 1, super 0 2, end", "1 2||at:put:"},
		{"super foo foo", "0/0: self, super 0 0, send 0 0, end", "||foo"},
		{"(super) foo", "0/0: self, super 0 0, end", "||foo"},
		{"self foo: super foo", "0/0: self, self, super 0 0, send 1 1, end", "||foo foo:"},
		{"self foo", "0/0: self, send 0 0, end", "||foo"},
	})
}

// P10.1: cascades.
func TestCascades(t *testing.T) {
	made(t, code.Compile, "", "x y", []row{
		{"3 foo; + 4", "0/0: lit 0, dup, send 0 0, pop, lit 1, send 1 1, end", "3 4||foo +"},
		{"x foo; bar; foo", "0/0: slot 0, dup, send 0 0, pop, dup, send 1 0, pop, send 0 0, end", "||foo bar"},
		{"x foo bar; baz", "0/0: slot 0, send 0 0, dup, send 1 0, pop, send 2 0, end", "||foo bar baz"},
		{"x + 1; at: 2 put: y; foo", "0/0: slot 0, dup, lit 0, send 0 1, pop, dup, lit 1, slot 1, send 1 2, pop, send 2 0, end", "1 2||+ at:put: foo"},
		{"x foo: (y a; b); c", "0/0: slot 0, dup, slot 1, dup, send 0 0, pop, send 1 0, send 2 1, pop, send 3 0, end", "||a b foo: c"},
		{"(x a; b) c; d", "0/0: slot 0, dup, send 0 0, pop, send 1 0, dup, send 2 0, pop, send 3 0, end", "||a b c d"},
		{"super foo; + x; bar", "0/0: self, dup, super 0 0, pop, dup, slot 0, super 1 1, pop, super 2 0, end", "||foo + bar"},
		{"super foo bar; baz", "0/0: self, super 0 0, dup, send 1 0, pop, send 2 0, end", "||foo bar baz"},
		{"x foo: super a; b", "0/0: slot 0, dup, self, super 0 0, send 1 1, pop, send 2 0, end", "||a foo: b"},
		{"super foo: x a; b", "0/0: self, dup, slot 0, send 0 0, super 1 1, pop, super 2 0, end", "||a foo: b"},
		{"y := x foo; bar", "0/0: slot 0, dup, send 0 0, pop, send 1 0, setSlot 1, end", "||foo bar"},
	})
}

// P10.1: what stands between a unit's parts and at its end.
func TestUnits(t *testing.T) {
	made(t, code.Compile, "", "x", []row{
		{"", "0/0: const 0, end", "||"},
		{"| a |", "0/1: const 0, end", "||"},
		{"1. 2. 3", "0/0: lit 0, pop, lit 1, pop, lit 2, end", "1 2 3||"},
		{"1.", "0/0: lit 0, end", "1||"},
		{"^1", "0/0: lit 0, return", "1||"},
		{"1. ^2.", "0/0: lit 0, pop, lit 1, return", "1 2||"},
		{"^x := 1", "0/0: lit 0, setSlot 0, return", "1||"},
	})
	made(t, code.Method, "foo", "x", []row{
		{"foo", "0/0: self, return", "||"},
		{"foo | a |", "0/1: self, return", "||"},
		{"foo x", "0/0: slot 0, pop, self, return", "||"},
		{"foo x. 3", "0/0: slot 0, pop, lit 0, pop, self, return", "3||"},
		{"foo ^x", "0/0: slot 0, return", "||"},
		{"foo 3. ^x foo", "0/0: lit 0, pop, slot 0, send 0 0, return", "3||foo"},
		{"foo ^self", "0/0: self, return", "||"},
		{"foo []", "0/0: block 1, pop, self, return | 0/0: const 0, end", "||"},
		{"foo [x]", "0/0: block 1, pop, self, return | 0/0: slot 0, end", "||"},
	})
	made(t, code.Method, "at:put:", "x", []row{
		{"at: a put: b | c | c := a. ^b", "2/3: temp 0 0, setTemp 0 2, pop, temp 0 1, return", "||"},
	})
	made(t, code.Method, "+", "x", []row{{"+ x ^x", "1/1: temp 0 0, return", "||"}})
}

// P10.1: blocks are numbered as they come, those within one ahead of those behind it.
func TestBlocks(t *testing.T) {
	made(t, code.Compile, "", "x", []row{
		{"[]", "0/0: block 1, end | 0/0: const 0, end", "||"},
		{"[:a]", "0/0: block 1, end | 1/1: const 0, end", "||"},
		{"[:a :b | | c | c := b]", "0/0: block 1, end | 2/3: temp 0 1, setTemp 0 2, end", "||"},
		{"[1. 2]", "0/0: block 1, end | 0/0: lit 0, pop, lit 1, end", "1 2||"},
		{"[^1]", "0/0: block 1, end | 0/0: lit 0, return", "1||"},
		{"| a | [[a := x]]", "0/1: block 1, end | 0/0: block 2, end | 0/0: slot 0, setTemp 2 0, end", "||"},
		{"[1]. [2]", "0/0: block 1, pop, block 2, end | 0/0: lit 0, end | 0/0: lit 1, end", "1 2||"},
		{"[[1]. [2]]. [3]", "0/0: block 1, pop, block 4, end | 0/0: block 2, pop, block 3, end | 0/0: lit 0, end | 0/0: lit 1, end | 0/0: lit 2, end", "1 2 3||"},
		{"[[[1]]] foo: [[2]]", "0/0: block 1, block 4, send 0 1, end | 0/0: block 2, end | 0/0: block 3, end | 0/0: lit 0, end | 0/0: block 5, end | 0/0: lit 1, end", "1 2||foo:"},
		{"[1] foo; foo: [2]; foo: [3]", "0/0: block 1, dup, send 0 0, pop, dup, block 2, send 1 1, pop, block 3, send 1 1, end | 0/0: lit 0, end | 0/0: lit 1, end | 0/0: lit 2, end", "1 2 3||foo foo:"},
		{"[1] foo: 1", "0/0: block 1, lit 0, send 0 1, end | 0/0: lit 0, end", "1||foo:"},
		{"[self. super foo]", "0/0: block 1, end | 0/0: self, pop, self, super 0 0, end", "||foo"},
	})
}

// P10.1: a literal, a global and a selector stand in their lists once, in the order in which steps first need them, those of a Block where its step is.
func TestLists(t *testing.T) {
	made(t, code.Compile, "", "", []row{
		{"3 + 3 + 3", "0/0: lit 0, lit 0, send 0 1, lit 0, send 0 1, end", "3||+"},
		{"3. '3'. #'3'. #(3). 3. '3'. #'3'. #( 3 )", "0/0: lit 0, pop, lit 1, pop, lit 2, pop, lit 3, pop, lit 0, pop, lit 1, pop, lit 2, pop, lit 3, end", "3 '3' #'3' #(3)||"},
		{"#a. #'a'. #(a). #(#a)", "0/0: lit 0, pop, lit 0, pop, lit 1, pop, lit 1, end", "#a #(#a)||"},
		{"A. B. A", "0/0: global 0, pop, global 1, pop, global 0, end", "|A B|"},
		{"A foo: B foo. A foo", "0/0: global 0, global 1, send 0 0, send 1 1, pop, global 0, send 0 0, end", "|A B|foo foo:"},
		{"1. [2. A foo]. 3. B bar. 2. A foo", "0/0: lit 0, pop, block 1, pop, lit 2, pop, global 1, send 1 0, pop, lit 1, pop, global 0, send 0 0, end | 0/0: lit 1, pop, global 0, send 0 0, end", "1 2 3|A B|foo bar"},
		{"super foo; foo. self foo", "0/0: self, dup, super 0 0, pop, super 0 0, pop, self, send 0 0, end", "||foo"},
		{"#foo foo: #Foo. Foo", "0/0: lit 0, lit 1, send 0 1, pop, global 0, end", "#foo #Foo|Foo|foo:"},
	})
}

// P10.1: what is no source, and names that are not known, are told with their place, and nothing else.
func TestRefused(t *testing.T) {
	long := strings.Repeat(" ", api.MaxText+1)
	deep := strings.Repeat("[", api.MaxNest+1)
	for _, x := range []struct {
		f      makes
		source string
		at     int
		err    api.Errno
	}{
		{code.Compile, "a := 3", 0, api.ErrName},
		{code.Compile, "3 + foo", 4, api.ErrName},
		{code.Compile, "x + super", 4, api.ErrName},
		{code.Compile, "[:a | a := 1]", 6, api.ErrName},
		{code.Compile, "3. [:a :a]", 3, api.ErrName},
		{code.Compile, "a ]", 2, api.ErrSyntax},
		{code.Compile, "3 $", 2, api.ErrSyntax},
		{code.Compile, "foo + $", 6, api.ErrSyntax},
		{code.Compile, long, 0, api.ErrSize},
		{code.Compile, deep, api.MaxNest, api.ErrSize},
		{code.Compile, "\xff", 0, api.ErrSyntax},
		{code.Method, "", 0, api.ErrSyntax},
		{code.Method, "3", 0, api.ErrSyntax},
		{code.Method, "foo: a ^b", 8, api.ErrName},
		{code.Method, "foo: a a := 1", 7, api.ErrName},
		{code.Method, "foo: a bar: a", 0, api.ErrName},
		{code.Method, "foo )", 4, api.ErrSyntax},
		{code.Method, long, 0, api.ErrSize},
		{code.Method, "foo " + deep, 4 + api.MaxNest, api.ErrSize},
	} {
		c, at, err := x.f(x.source, []string{"x"})
		if err != x.err || at != x.at || dump(c) != dump(code.Code{}) {
			t.Errorf("%q: %s %d %v, want %v at %d", x.source, dump(c), at, err, x.err, x.at)
		}
	}
	n, _, _ := tree.Parse("x. foo")
	if c, at, err := code.Make(n, []string{"x"}); err != api.ErrName || at != 3 || dump(c) != dump(code.Code{}) {
		t.Error("Make:", dump(c), at, err)
	}
}

// The rules 4 and 5: nothing that is handed in is changed or kept, and no list of an answer shares memory with another one.
func TestMemory(t *testing.T) {
	n, _, _ := tree.Method("foo: a | b | b := [:c | [x + c]. A foo: 3]. ^[#z]")
	text, slots := tree.Text(n), []string{"w", "x"}
	c, _, _ := code.Make(n, slots)
	want := dump(c)
	d, _, _ := code.Make(n, slots)
	for i := range d.Units {
		_ = append(d.Units[i].Ins, code.Ins{Op: code.Pop, A: 9})
		d.Units[i].Ins[0] = code.Ins{Op: code.Dup}
	}
	for _, list := range [][]string{d.Lits, d.Names, d.Sels, slots} {
		_ = append(list, "more")
		list[0] = "another"
	}
	d.Units[0] = code.Unit{}
	_ = append(d.Units, code.Unit{})
	if dump(c) != want || tree.Text(n) != text {
		t.Error("changed:", dump(c), tree.Text(n))
	}
	if c, _, _ := code.Make(n, []string{"w", "x"}); dump(c) != want {
		t.Error("not the same again:", dump(c))
	}
	code.Check(c, 2)
	code.Depth(c.Units[0])
	if dump(c) != want {
		t.Error("changed by Check or Depth:", dump(c))
	}
}
