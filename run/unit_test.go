package run_test

import (
	"slices"
	"strconv"
	"strings"
	"testing"

	"lapidary/api"
	"lapidary/class"
	"lapidary/view"
)

// P15.2: literals, each time they come; numbers at the edges of the small ones.
func TestLiterals(t *testing.T) {
	wants(t, world(t, nil),
		"", "nil",
		"nil", "nil",
		"true", "true",
		"false", "false",
		"self", "nil",
		"0", "0",
		"1152921504606846975", "1152921504606846975",
		"1152921504606846976", "large 1152921504606846976",
		"9223372036854775807", "large 9223372036854775807",
		"123456789012345678901234567890", "large 123456789012345678901234567890",
		"''", `""`,
		"'it''s'", `"it's"`,
		"''''''", `"''"`,
		"'a b) #( c'", `"a b) #( c"`,
		"'\xff\x00'", `"\xff\x00"`,
		"#a", "#a",
		"#at:put:", "#at:put:",
		"#+", "#+",
		"#'a b)''('", "#a b)'(",
		"#''", "#",
		"#()", "Array()",
		"#(1)", "Array(1)",
		"#(1 2 #(3 (4)) foo #bar at:put: + 'x y' 'it''s)' #'a )')", `Array(1 2 Array(3 Array(4)) #foo #bar #at: #put: #+ "x y" "it's)" #a ))`,
		"#(true false nil self #true 'nil')", `Array(true false nil #self #true "nil")`,
		"#(1152921504606846976 #())", "Array(large 1152921504606846976 Array())",
		"'"+strings.Repeat("a", api.MaxBytes)+"'", strconv.Quote(strings.Repeat("a", api.MaxBytes)),
	)
}

// P15.2: a literal's objects: new ones, in the order of its parts, the list behind its elements; small values are none.
func TestLiteralObjects(t *testing.T) {
	v := world(t, nil)
	do(t, v, "#(1 'a' #(b 1152921504606846976) nil)")
	first := int64(api.MaxOops + 1)
	for i, want := range []api.Obj{
		text(class.String, "a"),
		text(class.Symbol, "b"),
		text(class.Integer, "\x00\x10\x00\x00\x00\x00\x00\x00\x00"),
		slots(class.Array, ref(first+1), ref(first+2)),
		slots(class.Array, integer(1), ref(first), ref(first+3), api.Val{}),
	} {
		if got := peek(t, v, first+int64(i)); got.Class != want.Class || string(got.Bytes) != string(want.Bytes) || !slices.Equal(got.Slots, want.Slots) {
			t.Errorf("%d: %v, want %v", i, got, want)
		}
	}
	if len(v.News()) != 5 || len(v.Reads()) != 0 {
		t.Error("made were", v.News(), "read", v.Reads())
	}
	v = world(t, nil)
	wants(t, v, "| b | b := ['a']. b value == b value", "false", "| b | b := [#a]. b value == b value", "true", "| b | b := [7]. b value == b value", "true")
	if len(v.News()) != 4 {
		t.Error(len(v.News()), "were made")
	}
}

// P15.2: literals that can not be made: too many elements, a symbol that is too long within a list, no room; and those that are longer as texts than a source.
func TestLiteralEdges(t *testing.T) {
	list := func(n int, s string) string { return "#(" + strings.Repeat(s+" ", n) + ")" }
	v := world(t, nil)
	wants(t, v,
		list(256, "1")+" size", "256",
		list(257, "1"), "! wrong argument",
		"["+list(257, "1")+"] onError: [:e | e]", `"wrong argument"`,
		"#(#("+strings.Repeat("a", 1024)+")) size", "1",
		"#("+strings.Repeat("a", 1025)+")", "! wrong argument",
		"#("+strings.Repeat("a", 1024)+":)", "! wrong argument",
	)
	long := "#(" + strings.Repeat("("+strings.Repeat("a ", 256)+")", 7) + ")"
	v = world(t, nil)
	wants(t, v, "("+long+" at: 7) at: 256", "#a", long+" size", "7")
	v = world(t, nil)
	do(t, v, "["+list(300, "a")+"] onError: [1]")
	if len(v.News()) != 300 {
		t.Error(len(v.News()), "were made ahead of the list")
	}
	for _, source := range []string{"'a'", "#a", "#()", "#('a')", "1152921504606846976"} {
		v := world(t, nil)
		fill(t, v, 0)
		wants(t, v, source, "! no room", "["+source+"] onError: [7]", "7")
	}
	v = world(t, nil)
	fill(t, v, 1)
	wants(t, v, "#('a')", "! no room", "3. nil. true. 1152921504606846975", "1152921504606846975")
}

// P15.2: globals: classes ahead of the root's, Root, the value under a Symbol of that name.
func TestGlobals(t *testing.T) {
	v := world(t, map[int64]api.Obj{
		class.Root: slots(class.Dictionary,
			ref(free), integer(1), // a String
			integer(7), integer(2),
			ref(missing), integer(3),
			ref(free+1), ref(free+5),
			ref(free+2), integer(5),
			ref(free+1), integer(6),
			ref(free+3), integer(8)),
		free:     text(class.String, "Zork"),
		free + 1: text(class.Symbol, "Zork"),
		free + 2: text(class.Symbol, "Array"),
		free + 3: text(class.Symbol, "Root"),
		free + 4: text(class.Symbol, "Last"),
		free + 5: slots(class.Array, integer(4)),
	})
	w := v.Copy()
	wants(t, w, "Array", "class Array", "Object", "class Object", "UndefinedObject", "class UndefinedObject", "RcBag", "class RcBag")
	if x, _ := over(t, w, "Root").Value(); x != ref(class.Root) {
		t.Error("Root is", x)
	}
	if len(w.Reads()) != 0 {
		t.Error("what is known was read:", w.Reads())
	}
	wants(t, w, "Zork", "Array(4)")
	if got := w.Reads(); !slices.Equal(got, []int64{class.Root, free, free + 1, missing}) {
		t.Error("read were", got)
	}
	w = v.Copy()
	wants(t, w, "Last", "! no such name", "Zor", "! no such name")
	if got := w.Reads(); !slices.Equal(got, []int64{class.Root, free, free + 1, free + 2, free + 3, missing}) {
		t.Error("read were", got)
	}
	wants(t, v,
		"[Last] onError: [:e | e]", `"no such name"`,
		"Root at: #New put: 77. New + 1", "78",
		"Root removeKey: #New. New", "! no such name",
	)
}

// P15.2: a root that has a key without a value, or is not there.
func TestGlobalsOddRoot(t *testing.T) {
	v := world(t, map[int64]api.Obj{class.Root: slots(class.Dictionary, ref(free)), free: text(class.Symbol, "Zork")})
	wants(t, v, "Zork", "! no such name")
}

// pointed is a world with the class P, of the slots x and y, and Q below it, of the slot z.
func pointed(t testing.TB) *view.View {
	v := world(t, nil)
	do(t, v, "Object subclass: #P slots: 'x y'", "P subclass: #Q slots: 'z'",
		"P compile: 'x ^x'", "P compile: 'y ^y'", "P compile: 'x: a x := a'", "P compile: 'x: a y: b x := a. y := b'",
		"Q compile: 'z ^z'", "Q compile: 'z: a ^z := a'", "Q compile: 'all ^(x + y) + z'")
	return v
}

// P15.2: slots are an object's own, and a set's value stays.
func TestSlots(t *testing.T) {
	wants(t, pointed(t),
		"P new x", "nil",
		"P new x: 5; x", "5",
		"P new x: 5; y", "nil",
		"| p | p := P new. p x: 1 y: 2. p", "P(1 2)",
		"| p q | p := P new. q := P new. p x: 1. q x: 2. (p x * 10) + q x", "12",
		"(Q new x: 1 y: 2; yourself) z: 3", "3",
		"| q | q := Q new. q x: 1 y: 2. q z: 4. q all", "7",
		"P new x: [3]", "! can not be kept",
		"| p | p := P new. [p x: [3]] onError: [1]. p x", "nil",
		"P compile: 'deep ^[[x := 8] value] value'. P new deep", "8",
		"P compile: 'both x := y := 6'. P new both", "P(6 6)",
	)
}

// P15.2: slots that are not there: an object with fewer, a value that is no object, an object that has lost them.
func TestSlotsMissing(t *testing.T) {
	v := world(t, map[int64]api.Obj{
		16:         text(class.String, "x y"), // the names of all classes that the kernel makes
		class.Root: slots(class.Dictionary, ref(free), ref(free+1)),
		free:       text(class.Symbol, "A"),
		free + 1:   slots(class.Object, integer(7)),
	})
	do(t, v, "Object compile: 'x ^x'", "Object compile: 'y ^y'", "Object compile: 'x: a x := a'", "Object compile: 'y: a y := a'")
	w := v.Copy()
	wants(t, w, "A x", "7", "A y", "! no such place", "A y: 3", "! no such place", "A x: 4. A x", "4")
	if got := w.Writes(); !has(got, free+1) {
		t.Error("written were", got)
	}
	w = v.Copy()
	wants(t, w, "A y: 3", "! no such place")
	if !has(w.Reads(), free+1) || has(w.Writes(), free+1) {
		t.Error("read were", w.Reads(), "written", w.Writes())
	}
	wants(t, v,
		"3 x", "! no such place", "nil x", "! no such place", "true x: 3", "! no such place", "[3] x", "! no such place", "'abc' x", "! no such place",
		"#(5 6) y", "6", "#(5) y", "! no such place", "#(5 6) x: 8; x", "8",
	)
}

// P15.2: what is read is the object whose slot it is; what is set is read and written; read alone, where that errs.
func TestSlotsRead(t *testing.T) {
	lay := func(own ...api.Val) *view.View {
		return world(t, map[int64]api.Obj{
			class.Root: slots(class.Dictionary, ref(free), ref(free+1)),
			free:       text(class.Symbol, "A"),
			free + 1:   slots(free+2, own...),
			free + 2:   slots(class.Class, ref(1), ref(free+3), ref(free+4)),
			free + 3:   text(class.String, "x y"),
			free + 4:   slots(class.Array, ref(free+5), ref(free+6), ref(free+7), ref(free+8), ref(free+9), ref(free+10)),
			free + 5:   text(class.Symbol, "none"), free + 6: text(class.String, "none ^3"),
			free + 7: text(class.Symbol, "get"), free + 8: text(class.String, "get ^x"),
			free + 9: text(class.Symbol, "set:"), free + 10: text(class.String, "set: a y := a"),
		})
	}
	for source, want := range map[string]struct{ read, written bool }{
		"A":            {},
		"A none":       {},
		"A get":        {read: true},
		"A set: 3":     {read: true, written: true},
		"A set: [3]":   {read: true},
		"A foo":        {},
		"A == A":       {},
		"A class":      {},
		"A isNil":      {},
		"A yourself":   {},
		"A ifNil: [1]": {},
	} {
		v := lay(integer(1), integer(2))
		over(t, v, source)
		if has(v.Reads(), free+1) != want.read || has(v.Writes(), free+1) != want.written {
			t.Errorf("%q: read %v, written %v", source, v.Reads(), v.Writes())
		}
		v = lay()
		r := over(t, v, source)
		if _, failure := r.Value(); want.read && failure != "no such place" {
			t.Errorf("%q: %q", source, failure)
		}
		if has(v.Reads(), free+1) != want.read || len(v.Writes()) != 0 {
			t.Errorf("%q without slots: read %v, written %v", source, v.Reads(), v.Writes())
		}
	}
	v := lay(integer(1), integer(2))
	do(t, v, "A set: 9")
	if got := peek(t, v, free+1); !slices.Equal(got.Slots, []api.Val{integer(1), integer(9)}) {
		t.Error("it is", got)
	}
}

// P15.2: temps are Nil at first, each time their unit is run; blocks see those of the units they stand in.
func TestTemps(t *testing.T) {
	wants(t, world(t, nil),
		"| a | a", "nil",
		"| a b | a := b := 3. a + b", "6",
		"| a | [a := 5] value. a", "5",
		"| b | b := [| x | x isNil ifTrue: [x := 1] ifFalse: [x := 2]. x]. b value. b value", "1",
		"| a | a := [:x | [:y | x + y]]. ((a value: 1) value: 10) + ((a value: 2) value: 20)", "33",
		"| c n | n := 0. c := [n := n + 1]. c value. c value. n", "2",
		"| l | l := Array new: 3. [:a :b | | c | l at: 1 put: a; at: 2 put: b; at: 3 put: c] value: 1 value: 2. l", "Array(1 2 nil)",
		"| a | a := 1. [| a | a := 2] value. a", "1",
		"| mk a b | mk := [:k | | n | n := k. [n := n + 1]]. a := mk value: 10. b := mk value: 20. a value. a value. b value. a value * 100 + b value", "1322",
		"[:x | [:y | [:z | x * 100 + (y * 10) + z]]] value: 1", "a block",
		"((([:x | [:y | [:z | x * 100 + (y * 10) + z]]] value: 1) value: 2) value: 3)", "123",
	)
}

// P15.2: a receiver ahead of its arguments, these in order, each once; a cascade's receiver once.
func TestOrder(t *testing.T) {
	v := world(t, nil)
	do(t, v, "Object subclass: #P slots: 'log'",
		"P compile: 'start log := String new'",
		"P compile: 'log ^log'",
		"P compile: 'say: s log := log , s. ^self'",
		"P compile: 'a: a b: b c: c log := log , ''!''. ^self'",
		"P compile: '+ x log := log , ''+''. ^self'")
	wants(t, v,
		"| p | p := P new. p start. (p say: 'r') a: (p say: '1') b: (p say: '2') c: (p say: '3'). p log", `"r123!"`,
		"| p | p := P new. p start. (p say: 'r') + (p say: '1') + (p say: '2'). p log", `"r1+2+"`,
		"| p | p := P new. p start. (p say: 'r') say: 'x'; + (p say: '1'); + (p say: '2'). p log", `"rx1+2+"`,
		"| p x | p := P new. p start. x := (p say: 'a') == (x := p say: 'b'). p log", `"ab"`,
	)
}
