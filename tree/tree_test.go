package tree_test

import (
	"strconv"
	"strings"
	"testing"

	"lapidary/api"
	"lapidary/tree"
)

// kinds are the names of the kinds of parts, by their numbers.
var kinds = []string{"", "num", "str", "sym", "list", "var", "set", "send", "casc", "msg", "block", "return", "unit", "word"}

// dump writes a tree with all of its fields: (kind text @place <arguments / temps> parts).
func dump(n tree.Node) string {
	var b strings.Builder
	b.WriteString("(" + kinds[n.Kind])
	if n.Text != "" {
		b.WriteString(" " + n.Text)
	}
	b.WriteString(" @" + strconv.Itoa(n.At))
	if n.N > 0 || len(n.Names) > 0 {
		b.WriteString(" <" + strings.Join(n.Names[:n.N], " ") + "/" + strings.Join(n.Names[n.N:], " ") + ">")
	}
	for _, kid := range n.Kids {
		b.WriteString(" " + dump(kid))
	}
	return b.String() + ")"
}

type reads func(string) (tree.Node, int, api.Errno)

// makes asks that a source is read as the trees of a table.
func makes(t *testing.T, read reads, table [][2]string) {
	t.Helper()
	for _, row := range table {
		n, at, err := read(row[0])
		if err != api.OK || at != 0 || dump(n) != row[1] {
			t.Errorf("%q: %s %d %v, want %s", row[0], dump(n), at, err, row[1])
		}
	}
}

// refuses asks that a source is none, with its place and nothing else.
func refuses(t *testing.T, read reads, want api.Errno, table map[string]int) {
	t.Helper()
	for s, place := range table {
		n, at, err := read(s)
		if err != want || at != place || dump(n) != "( @0)" {
			t.Errorf("%q: %s %d %v, want %v at %d", s, dump(n), at, err, want, place)
		}
	}
}

// P8.1: statements, temps, blocks and what stands alone.
func TestUnits(t *testing.T) {
	makes(t, tree.Parse, [][2]string{
		{"", "(unit @0)"},
		{" \"nothing\" ", "(unit @0)"},
		{" a", "(unit @0 (var a @1))"},
		{"a.", "(unit @0 (var a @0))"},
		{"a. b", "(unit @0 (var a @0) (var b @3))"},
		{"a. b.", "(unit @0 (var a @0) (var b @3))"},
		{"^a", "(unit @0 (return @0 (var a @1)))"},
		{"a. ^ b .", "(unit @0 (var a @0) (return @3 (var b @5)))"},
		{"| |", "(unit @0)"},
		{"||", "(unit @0)"},
		{"| a b | c", "(unit @0 </a b> (var c @8))"},
		{"|a a|", "(unit @0 </a a>)"},
		{"12", "(unit @0 (num 12 @0))"},
		{"'it''s'", "(unit @0 (str it's @0))"},
		{"''", "(unit @0 (str @0))"},
		{"#at:put:", "(unit @0 (sym at:put: @0))"},
		{"#'a b'", "(unit @0 (sym a b @0))"},
		{"true", "(unit @0 (var true @0))"},
		{"a := b", "(unit @0 (set a @0 (var b @5)))"},
		{"a:=b:=c d", "(unit @0 (set a @0 (set b @3 (send d @8 (var c @6)))))"},
		{"(a)", "(unit @0 (var a @1))"},
		{"((a := b))", "(unit @0 (set a @2 (var b @7)))"},
		{"[]", "(unit @0 (block @0))"},
		{"[a. ^b]", "(unit @0 (block @0 (var a @1) (return @4 (var b @5))))"},
		{"[:a]", "(unit @0 (block @0 <a/>))"},
		{"[:a|]", "(unit @0 (block @0 <a/>))"},
		{"[: a :b | c]", "(unit @0 (block @0 <a b/> (var c @10)))"},
		{"[:a || b | c]", "(unit @0 (block @0 <a/b> (var c @11)))"},
		{"[| b | c.]", "(unit @0 (block @0 </b> (var c @7)))"},
		{"[||]", "(unit @0 (block @0))"},
		{"[:a |||]", "(unit @0 (block @0 <a/>))"},
		{" [[^1]]", "(unit @0 (block @1 (block @2 (return @3 (num 1 @4)))))"},
	})
}

// P8.1: messages, by what binds them, and their places.
func TestMessages(t *testing.T) {
	makes(t, tree.Parse, [][2]string{
		{"a b", "(unit @0 (send b @2 (var a @0)))"},
		{"a b c", "(unit @0 (send c @4 (send b @2 (var a @0))))"},
		{"a + b", "(unit @0 (send + @2 (var a @0) (var b @4)))"},
		{"a + b - c", "(unit @0 (send - @6 (send + @2 (var a @0) (var b @4)) (var c @8)))"},
		{"a + b c", "(unit @0 (send + @2 (var a @0) (send c @6 (var b @4))))"},
		{"a + (b - c)", "(unit @0 (send + @2 (var a @0) (send - @7 (var b @5) (var c @9))))"},
		{"a b + 2 foo: 3", "(unit @0 (send foo: @8 (send + @4 (send b @2 (var a @0)) (num 2 @6)) (num 3 @13)))"},
		{"a b: c d: e + f g", "(unit @0 (send b:d: @2 (var a @0) (var c @5) (send + @12 (var e @10) (send g @16 (var f @14)))))"},
		{"a b: (c d: e)", "(unit @0 (send b: @2 (var a @0) (send d: @8 (var c @6) (var e @11))))"},
		{"(a b: c) d: e", "(unit @0 (send d: @9 (send b: @3 (var a @1) (var c @6)) (var e @12)))"},
		{"a := b c: d", "(unit @0 (set a @0 (send c: @7 (var b @5) (var d @10))))"},
		{"[a] b", "(unit @0 (send b @4 (block @0 (var a @1))))"},
		{"3 - 4", "(unit @0 (send - @2 (num 3 @0) (num 4 @4)))"},
		{"#a , 'b'", "(unit @0 (send , @3 (sym a @0) (str b @5)))"},
	})
}

// P8.1: cascades go to the receiver of the last message ahead of the first Semi.
func TestCascades(t *testing.T) {
	makes(t, tree.Parse, [][2]string{
		{"a b; c", "(unit @0 (casc @2 (var a @0) (msg b @2) (msg c @5)))"},
		{"a b c; d; e", "(unit @0 (casc @4 (send b @2 (var a @0)) (msg c @4) (msg d @7) (msg e @10)))"},
		{"a + b; c", "(unit @0 (casc @2 (var a @0) (msg + @2 (var b @4)) (msg c @7)))"},
		{"a + b + c; d", "(unit @0 (casc @6 (send + @2 (var a @0) (var b @4)) (msg + @6 (var c @8)) (msg d @11)))"},
		{"a b: c d: e; + f g; h: i + j k: l", "(unit @0 (casc @2 (var a @0) (msg b:d: @2 (var c @5) (var e @10)) (msg + @13 (send g @17 (var f @15))) (msg h:k: @20 (send + @25 (var i @23) (var j @27)) (var l @32))))"},
		{"(a b) c; d", "(unit @0 (casc @6 (send b @3 (var a @1)) (msg c @6) (msg d @9)))"},
		{"(a b; c) d; e", "(unit @0 (casc @9 (casc @3 (var a @1) (msg b @3) (msg c @6)) (msg d @9) (msg e @12)))"},
		{"^a b; c", "(unit @0 (return @0 (casc @3 (var a @1) (msg b @3) (msg c @6))))"},
		{"x := a b; c", "(unit @0 (set x @0 (casc @7 (var a @5) (msg b @7) (msg c @10))))"},
		{"a b: (c d; e); f", "(unit @0 (casc @2 (var a @0) (msg b: @2 (casc @8 (var c @6) (msg d @8) (msg e @11))) (msg f @15)))"},
	})
}

// P8.1: what stands in a List.
func TestLists(t *testing.T) {
	makes(t, tree.Parse, [][2]string{
		{"#()", "(unit @0 (list @0))"},
		{"#(1 'a' #b c d: + true false nil)", "(unit @0 (list @0 (num 1 @2) (str a @4) (sym b @8) (sym c @11) (sym d: @13) (sym + @16) (word true @18) (word false @23) (word nil @29)))"},
		{"#(#true self)", "(unit @0 (list @0 (sym true @2) (sym self @8)))"},
		{"#(a:b:)", "(unit @0 (list @0 (sym a: @2) (sym b: @4)))"},
		{"#(-4)", "(unit @0 (list @0 (sym - @2) (num 4 @3)))"},
		{"#(1 (2 (3)) #(4) ())", "(unit @0 (list @0 (num 1 @2) (list @4 (num 2 @5) (list @7 (num 3 @8))) (list @12 (num 4 @14)) (list @17)))"},
		{"a b: #(1) c", "(unit @0 (send b: @2 (var a @0) (send c @10 (list @5 (num 1 @7)))))"},
	})
}

// P8.1: patterns.
func TestMethods(t *testing.T) {
	makes(t, tree.Method, [][2]string{
		{"foo", "(unit foo @0)"},
		{" foo bar", "(unit foo @0 (var bar @5))"},
		{"foo ^x", "(unit foo @0 (return @4 (var x @5)))"},
		{"foo || ", "(unit foo @0)"},
		{"foo | t | t := x", "(unit foo @0 </t> (set t @10 (var x @15)))"},
		{"+ x", "(unit + @0 <x/>)"},
		{"== x | t | x", "(unit == @0 <x/t> (var x @11))"},
		{"at: x put: y | t u | t := x", "(unit at:put: @0 <x y/t u> (set t @21 (var x @26)))"},
		{"a: a a: a a", "(unit a:a: @0 <a a/> (var a @10))"},
	})
	refuses(t, tree.Method, api.ErrSyntax, map[string]int{"": 0, "  ": 2, "1 foo": 0, "| a | b": 0, "^a": 0, "+": 1, "+ 3": 2, "+ x: y": 2, "a:": 2, "a: b: c": 3, "a: x b:": 7, "a: x b: 3": 8, "foo: x | t": 10, "foo ]": 4, "foo + 3": 4, "foo: x + 3": 7, "foo: x y: z. a": 11, ":= a": 0, "#foo": 0})
}

// P8.1: the first word with which it is no unit.
func TestNoUnits(t *testing.T) {
	refuses(t, tree.Parse, api.ErrSyntax, map[string]int{
		"a ]": 2, "a )": 2, "(a": 2, "(a]": 2, "[a": 2, "[a)": 2, "()": 1, "( )": 2, ".": 0, "a..": 2, "a. . b": 3, "^a. b": 4, "^a b. . ": 6, "^": 1, "^^a": 1, "(^a)": 1,
		"a; b": 1, "(a b); c": 5, "(a b; c); d": 8, "((a b)); c": 7, "3; foo": 1, "[a b]; c": 5, "a := b; c": 6, "a b;": 4, "a b; ; c": 5, "a b; 3": 5, "a b; c d": 7, "a b; + c + d": 9, "a b; + c d: e": 9, "a b; c d: e": 7, "a b; + ": 7, "a b; c: ": 8,
		"[:x y]": 4, "[:x": 3, "[:x.]": 3, "[:]": 2, "[:a:b|a]": 2, "[:3]": 2, "[:x: a]": 2, "[:x :]": 5, "[:x | y | z]": 8, "[x | y]": 3, "[: x | | y]": 10, "[^a. b]": 5,
		"| a": 3, "| a: |": 2, "| 3 |": 2, "|": 1, "| a | | b |": 6, "a | b": 2,
		"a := ": 5, "3 := 4": 2, "a b := 3": 4, "(a) := 3": 4, "a foo: b := 3": 9, ":= 3": 0, "a := := b": 5, "a := ^b": 5,
		"a +": 3, "a + + b": 4, "+ a": 0, "a foo:": 6, "a foo: bar: b": 7, "foo: a": 0, "-4": 0, "a 3": 2, "a 'b'": 2, "a #b": 2, "a (b)": 2, "a [b]": 2, "3 4": 2, "a :b": 2,
		"#(": 2, "#(a": 3, "#([])": 2, "#(a . b)": 4, "#(a := b)": 4, "#(:a)": 2, "#(^)": 2, "#(;)": 2, "#(|)": 2, "#((a)": 5, "#(1))": 4, "#(a ]": 4,
	})
}

// P8.1: lex.Read's error and place come first, wherever it is.
func TestWordsComeFirst(t *testing.T) {
	for _, read := range []reads{tree.Parse, tree.Method} {
		refuses(t, read, api.ErrSyntax, map[string]int{"] 'a": 2, ") ) $": 4, strings.Repeat("(", 41) + "01": 41})
		refuses(t, read, api.ErrSize, map[string]int{"]" + strings.Repeat(" ", 4096): 0, strings.Repeat("$", 5000): 0})
	}
	makes(t, tree.Parse, [][2]string{{strings.Repeat(" ", 4095) + "a", "(unit @0 (var a @4095))"}})
}

// deep is a source with n words of each kind that makes it deeper, one within the other.
func deep(open, inner, shut string, n int) string {
	return strings.Repeat(open, n) + inner + strings.Repeat(shut, n)
}

// P8.1: a depth of 40, and of 41 at the place of the word that makes it so.
func TestDepth(t *testing.T) {
	for _, row := range []struct {
		open, inner, shut string
		word              int // the place of the word that makes it deeper, within open
	}{
		{"(", "a", ")", 0}, {"[", "a", "]", 0}, {"[:x | ", "a", "]", 0}, {"#(", "1", ")", 0}, {"a := ", "b", "", 2}, {"[x foo: ", "b", "]", 0}, {"[^", "a", "]", 0},
	} {
		good, bad := deep(row.open, row.inner, row.shut, 40), deep(row.open, row.inner, row.shut, 41)
		if _, at, err := tree.Parse(good); err != api.OK || at != 0 {
			t.Errorf("%q: %d %v", good, at, err)
		}
		place := 40*len(row.open) + row.word
		refuses(t, tree.Parse, api.ErrSize, map[string]int{bad: place, good + ". " + bad: len(good) + 2 + place})
	}
	within := "#(" + deep("(", "1", ")", 39) + ")"
	for _, s := range []string{within, within + ". " + within, deep("(", "a", ")", 40) + " foo: " + deep("[", "a", "]", 40) + " + (b := c); bar: (x := y)"} {
		if _, at, err := tree.Parse(s); err != api.OK || at != 0 {
			t.Errorf("%q: %d %v", s, at, err)
		}
	}
	refuses(t, tree.Parse, api.ErrSize, map[string]int{
		"#(" + deep("(", "1", ")", 40) + ")":            41,
		deep("(", "a := #(1)", ")", 39):                 44,
		deep("(", "a := [b]", ")", 39) + "]":            44,
		deep("[", "a := b := c", "]", 39):               46,
		deep("(", "#(1 (2))", ")", 39):                  43,
		deep("(", "", "", 41):                           40,
		deep("(", "", "", 40) + "a foo: (b) bar: c ] ]": 47,
	})
	refuses(t, tree.Parse, api.ErrSyntax, map[string]int{
		deep("(", "", "", 40):               40,
		deep("(", "a (b", "", 40):           42,
		"]" + deep("(", "a", ")", 41):       0,
		deep("[", "a :=", "", 39) + "]":     43,
		deep("(", "a #(b)", "", 40):         42,
		deep("(", "(a) := b)", ")", 39):     43,
		deep("#(", "[", "", 40):             80,
		deep("[", "a foo: b := c", "]", 40): 49,
	})
	if _, at, err := tree.Method("foo " + deep("(", "a", ")", 40)); err != api.OK || at != 0 {
		t.Error("Method", at, err)
	}
	refuses(t, tree.Method, api.ErrSize, map[string]int{"foo: x " + deep("(", "a", ")", 41): 47})
}

// P8.1: long chains of messages are no depth.
func TestLongChains(t *testing.T) {
	for _, s := range []string{"a" + strings.Repeat(" b", 2047), "a" + strings.Repeat("+b", 2047), "a b" + strings.Repeat(";c", 2046), strings.Repeat("a.", 2048), "#(" + strings.Repeat("a ", 2046) + ")", "a" + strings.Repeat(" k:b", 1000), "|" + strings.Repeat("a ", 2046) + "|"} {
		n, at, err := tree.Parse(s)
		if err != api.OK || at != 0 {
			t.Errorf("%.20q: %d %v", s, at, err)
		}
		if got, want := strings.ReplaceAll(tree.Text(n), " ", ""), strings.TrimSuffix(strings.ReplaceAll(s, " ", ""), "."); strings.ReplaceAll(got, "#a", "a") != want {
			t.Errorf("%.20q: %.20q", s, got)
		}
	}
}

// P8.2
func TestArgs(t *testing.T) {
	for s, want := range map[string]int{"foo": 0, "Z9_": 0, "+": 1, "==": 1, "\\": 1, "at:": 1, "at:put:": 2, "a:b:c:": 3, "a::": 2, "_a:b:": 1, "1:2:": 1, ":": 1, "::": 1, "a:b": 1, "a b": 0, "\xc3\xa9": 1, "a\xff:\xff:": 2, " a:b:": 1, "": 0, strings.Repeat("a:", 5000): 5000} {
		if got := tree.Args(s); got != want {
			t.Errorf("Args %q: %d", s, got)
		}
	}
}

// Rule 4: no list of an answer shares memory with another one.
func TestAnswersAreNew(t *testing.T) {
	for _, s := range []string{"| a b | a foo: 1 bar: 2; + 3; baz. [:c :d | | e | #(1 (2) 3)]. a + b c: 4", "a b c + 3 d"} {
		n, _, _ := tree.Parse(s)
		want := dump(n)
		spoil(n)
		if again, _, _ := tree.Parse(s); dump(again) != want {
			t.Errorf("%q: %s", s, dump(again))
		}
	}
}

// spoil appends to every list of a tree, and asks that no other one is changed by it.
func spoil(n tree.Node) {
	_ = append(n.Names, "spoilt")
	_ = append(n.Kids, tree.Node{Kind: tree.Num, Text: "spoilt"})
	for i := range n.Kids {
		spoil(n.Kids[i])
	}
	for i := range n.Names {
		n.Names[i] = "spoilt"
	}
	for i := range n.Kids {
		n.Kids[i].Text = "spoilt"
	}
}

// Rule 4: appending to a list of an answer, or writing into it, changes no other list of the same answer.
func TestListsApart(t *testing.T) {
	s := "| a b | a foo: 1 bar: 2; + 3; baz. [:c :d | | e | #(1 (2) 3)]. a + b c: 4"
	fresh := func() tree.Node { n, _, _ := tree.Parse(s); return n }
	count := len(lists(ptr(fresh())))
	for i := range count {
		n := fresh()
		all := lists(&n)
		before := dump(n)
		*all[i] = append(*all[i], tree.Node{Kind: tree.Num})[:len(*all[i])]
		if dump(n) != before {
			t.Errorf("the list %d", i)
		}
	}
	n := fresh()
	seen := map[*tree.Node]int{}
	for i, list := range lists(&n) {
		full := (*list)[:cap(*list)]
		for j := range full {
			if at, ok := seen[&full[j]]; ok {
				t.Errorf("the lists %d and %d share memory", at, i)
			}
			seen[&full[j]] = i
		}
	}
}

func ptr(n tree.Node) *tree.Node { return &n }

// lists are the places of all lists of parts within a tree.
func lists(n *tree.Node) []*[]tree.Node {
	out := []*[]tree.Node{&n.Kids}
	for i := range n.Kids {
		out = append(out, lists(&n.Kids[i])...)
	}
	return out
}
