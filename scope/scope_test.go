package scope_test

import (
	"strconv"
	"strings"
	"testing"

	"lapidary/api"
	"lapidary/scope"
	"lapidary/tree"
)

// kinds are the names of the kinds of names, by their numbers.
var kinds = []string{"self", "super", "const", "temp", "slot", "global"}

// dump writes uses with all of their fields: name@place kind depth index, with := ahead of the place of one that is set.
func dump(uses []scope.Use) string {
	var out []string
	for _, x := range uses {
		set := ""
		if x.Write {
			set = ":="
		}
		out = append(out, x.Name+set+"@"+strconv.Itoa(x.At)+" "+kinds[x.Kind]+" "+strconv.Itoa(x.Depth)+" "+strconv.Itoa(x.Index))
	}
	return strings.Join(out, ", ")
}

type reads func(string) (tree.Node, int, api.Errno)

func treeOf(t *testing.T, read reads, s string) tree.Node {
	t.Helper()
	n, at, err := read(s)
	if err != api.OK {
		t.Fatalf("%q is no source: %d %v", s, at, err)
	}
	return n
}

// finds asks for the uses of the sources of a table.
func finds(t *testing.T, read reads, slots string, table [][2]string) {
	t.Helper()
	for _, row := range table {
		uses, at, err := scope.Resolve(treeOf(t, read, row[0]), strings.Fields(slots))
		if err != api.OK || at != 0 || dump(uses) != row[1] {
			t.Errorf("%q: %s %d %v, want %s", row[0], dump(uses), at, err, row[1])
		}
	}
}

// refuses asks for ErrName at the places of a table, and nothing else.
func refuses(t *testing.T, read reads, slots string, table map[string]int) {
	t.Helper()
	for s, place := range table {
		uses, at, err := scope.Resolve(treeOf(t, read, s), strings.Fields(slots))
		if err != api.ErrName || at != place || len(uses) != 0 {
			t.Errorf("%q: %s %d %v, want a name that is not known at %d", s, dump(uses), at, err, place)
		}
	}
}

// P9.1: what each kind of name is.
func TestKinds(t *testing.T) {
	finds(t, tree.Parse, "x y x Z", [][2]string{
		{"", ""},
		{"3 + 'a' + #b", ""},
		{"#(a b: self super nil (x))", ""},
		{"self", "self@0 self 0 0"},
		{"super a", "super@0 super 0 0"},
		{"nil. false. true", "nil@0 const 0 0, false@5 const 0 1, true@12 const 0 2"},
		{"| a b | a. b", "a@8 temp 0 0, b@11 temp 0 1"},
		{"x. y", "x@0 slot 0 0, y@3 slot 0 1"},
		{"Root. A. Zed. Z", "Root@0 global 0 0, A@6 global 0 0, Zed@9 global 0 0, Z@14 slot 0 3"},
		{"| Root | Root", "Root@9 temp 0 0"},
		{"| a b | b := a", "b:=@8 temp 0 1, a@13 temp 0 0"},
		{"y := x", "y:=@0 slot 0 1, x@5 slot 0 0"},
		{"^x", "x@1 slot 0 0"},
	})
	finds(t, tree.Method, "x y", [][2]string{
		{"foo", ""},
		{"foo: a bar: b | c | c := a + b", "c:=@20 temp 0 2, a@25 temp 0 0, b@29 temp 0 1"},
		{"+ x ^x", "x@5 temp 0 0"},
		{"foo ^super foo", "super@5 super 0 0"},
		{"y y", "y@2 slot 0 1"},
		{"nil nil", "nil@4 const 0 0"},
	})
}

// P9.1: the innermost unit that has a name, and how many units out it is.
func TestUnits(t *testing.T) {
	finds(t, tree.Parse, "a x", [][2]string{
		{"| a | a := [:b | a + b + Root]", "a:=@6 temp 0 0, a@17 temp 1 0, b@21 temp 0 0, Root@25 global 0 0"},
		{"| a | [:a | a]. a", "a@12 temp 0 0, a@16 temp 0 0"},
		{"[:a | a]. a", "a@6 temp 0 0, a@10 slot 0 0"},
		{"[:x | [a. x]]", "a@7 slot 0 0, x@10 temp 1 0"},
		{"| p q | [:r | | s | [s. r. q. p]]", "s@21 temp 1 1, r@24 temp 1 0, q@27 temp 2 1, p@30 temp 2 0"},
		{"[[[x]]]", "x@3 slot 0 1"},
		{"| b | [[b := 1]]", "b:=@8 temp 2 0"},
		{"[| c | c := 1]", "c:=@7 temp 0 0"},
		{"[:b | | c | [:c | b]. c]", "b@18 temp 1 0, c@22 temp 0 1"},
		{"[:b | b] == [:b | b]", "b@6 temp 0 0, b@18 temp 0 0"},
		{"[| a | a := 1]", "a:=@7 temp 0 0"},
	})
}

// P9.1: the order is that of the tree: of a Set its name first, a receiver ahead of its arguments, a cascade's messages one behind the other.
func TestOrder(t *testing.T) {
	finds(t, tree.Parse, "a b c", [][2]string{
		{"a := b := c", "a:=@0 slot 0 0, b:=@5 slot 0 1, c@10 slot 0 2"},
		{"c foo: b bar: a", "c@0 slot 0 2, b@7 slot 0 1, a@14 slot 0 0"},
		{"c + b; foo: a; bar; - c", "c@0 slot 0 2, b@4 slot 0 1, a@12 slot 0 0, c@22 slot 0 2"},
		{"c foo: (b := a); bar", "c@0 slot 0 2, b:=@8 slot 0 1, a@13 slot 0 0"},
		{"a. [b. c]. a. ^b", "a@0 slot 0 0, b@4 slot 0 1, c@7 slot 0 2, a@11 slot 0 0, b@15 slot 0 1"},
	})
}

// P9.1: super, as the receiver of a Send or a Casc, and elsewhere.
func TestSuper(t *testing.T) {
	finds(t, tree.Parse, "a", [][2]string{
		{"super + a", "super@0 super 0 0, a@8 slot 0 0"},
		{"super foo: a", "super@0 super 0 0, a@11 slot 0 0"},
		{"super foo bar", "super@0 super 0 0"},
		{"(super) foo", "super@1 super 0 0"},
		{"super foo; bar", "super@0 super 0 0"},
		{"super + a; bar: a", "super@0 super 0 0, a@8 slot 0 0, a@16 slot 0 0"},
		{"[super foo]", "super@1 super 0 0"},
		{"a foo: super bar", "a@0 slot 0 0, super@7 super 0 0"},
		{"a := super foo", "a:=@0 slot 0 0, super@5 super 0 0"},
	})
	refuses(t, tree.Parse, "a super", map[string]int{
		"super":                 0,
		"^super":                1,
		"a. super":              3,
		"[super]":               1,
		"a := super":            5,
		"a + super":             4,
		"a foo: 1 bar: (super)": 15,
		"super + super":         8,
		"a foo; bar: super":     12,
		"super foo; + super":    13,
		"super := 1":            0,
	})
}

// P9.1: a unit's names that can not be are told at the unit.
func TestNames(t *testing.T) {
	refuses(t, tree.Parse, "", map[string]int{
		"| a a |":               0,
		" | a b a | a":          0,
		"[:a :a | a]":           0,
		"3. [:a | | a | a]":     3,
		"3. [| b b |]":          3,
		"| self |":              0,
		"| super |":             0,
		"| nil |":               0,
		"| false |":             0,
		"| true |":              0,
		"3 + [:self | 3]":       4,
		"[[:a :true]]":          1,
		"| a | [:a | [:b :b]]":  12,
		"| a | foo. [:b :b]":    6,
		"| a | [:b :b]. foo":    6,
		"| a a | foo":           0,
		"[:a :a | foo]":         0,
		"| a | a := [:nil | b]": 11,
	})
	refuses(t, tree.Method, "", map[string]int{
		" foo: a bar: a":   0,
		"foo: a | b a | b": 0,
		"foo | b b |":      0,
		"+ self":           0,
		"foo: nil 3":       0,
		"foo: a [:b :b]":   7,
	})
	finds(t, tree.Parse, "a a self", [][2]string{
		{"| a A | [:A | | a | a. A]", "a@20 temp 0 1, A@23 temp 0 0"},
		{"| selfish Self Nil | Self", "Self@21 temp 0 1"},
		{"self. a", "self@0 self 0 0, a@6 slot 0 0"},
	})
}

// P9.1: a Var that is nothing is told at its place.
func TestUnknown(t *testing.T) {
	refuses(t, tree.Parse, "a", map[string]int{
		"foo":                0,
		" 1 + x":             5,
		"a + b + c":          4,
		"[:b | b]. b":        10,
		"[| b | b] value: b": 17,
		"[:b | [:c | b]. c]": 16,
		"a foo: 1 bar: b":    14,
		"a foo; bar: b":      12,
		"root":               0,
		"thisContext":        0,
		"a := a := b":        10,
		"^b":                 1,
		"Self. SELF. self_":  12,
	})
	refuses(t, tree.Method, "", map[string]int{"foo foo": 4, "foo: a ^b": 8})
}

// P9.1: a Set of what can not be set is told at its place, ahead of its part.
func TestSets(t *testing.T) {
	refuses(t, tree.Parse, "x arg", map[string]int{
		"a := 3":                    0,
		" self := 1":                1,
		"nil := 1":                  0,
		"false := 1":                0,
		"true := 1":                 0,
		"Root := 1":                 0,
		"[:a | a := 1]":             6,
		"[:a | [a := 1]]":           7,
		"[:a :b | b := 1]":          9,
		"[:x | x := 1]":             6,
		"| a | [:a | a := 1]":       12,
		"a := b":                    0,
		"x := a := b":               5,
		"x := b":                    5,
		"a := super":                0,
		"x. (y := 3) foo":           4,
		"x := [:a | a := x]":        11,
		"x foo: (a := 1); bar":      8,
		"[:arg | [| t | arg := t]]": 15,
	})
	refuses(t, tree.Method, "x", map[string]int{"foo: a a := 1": 7, "foo: x x := 1": 7, "foo: a [a := 1]": 8})
	finds(t, tree.Parse, "x", [][2]string{
		{"[:a | [| a | a := x]]", "a:=@13 temp 0 0, x@18 slot 0 0"},
		{"| x | [:a | x := a]", "x:=@12 temp 1 0, a@17 temp 0 0"},
		{"[:a | | b | b := a]", "b:=@12 temp 0 1, a@17 temp 0 0"},
		{"| A | A := 1", "A:=@6 temp 0 0"},
	})
	finds(t, tree.Method, "x", [][2]string{{"foo: a | t | t := x := a", "t:=@13 temp 0 1, x:=@18 slot 0 0, a@23 temp 0 0"}})
}

// P7: slots of any kind, and a tree of nothing.
func TestAnySlots(t *testing.T) {
	n := treeOf(t, tree.Parse, "x := self foo: nil")
	want := "x:=@0 slot 0 5, self@5 self 0 0, nil@15 const 0 0"
	slots := []string{"", "self", "nil", "x ", "\xff", "x", "x"}
	if uses, at, err := scope.Resolve(n, slots); dump(uses) != want || at != 0 || err != api.OK {
		t.Error(dump(uses), at, err)
	}
	for _, slots := range [][]string{nil, {}, {""}} {
		if uses, at, err := scope.Resolve(n, slots); len(uses) != 0 || at != 0 || err != api.ErrName {
			t.Error(dump(uses), at, err)
		}
		if uses, at, err := scope.Resolve(tree.Node{}, slots); len(uses) != 0 || at != 0 || err != api.OK {
			t.Error(dump(uses), at, err)
		}
	}
}

// The rules 4 and 5: nothing that is handed in is changed or kept, and no answer shares memory with another one.
func TestMemory(t *testing.T) {
	n := treeOf(t, tree.Parse, "| a | a := [:b | x]. x")
	text, slots := tree.Text(n), []string{"w", "x"}
	first, _, _ := scope.Resolve(n, slots)
	want := dump(first)
	second, _, _ := scope.Resolve(n, slots)
	_ = append(second[:1], scope.Use{}, scope.Use{})
	slots[1] = "y"
	if dump(first) != want || tree.Text(n) != text || slots[0] != "w" {
		t.Error("changed:", dump(first), tree.Text(n), slots)
	}
	if _, at, err := scope.Resolve(n, slots); at != 17 || err != api.ErrName {
		t.Error("kept:", at, err)
	}
}
