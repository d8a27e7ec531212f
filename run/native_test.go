package run_test

import (
	"slices"
	"strings"
	"testing"

	"lapidary/api"
	"lapidary/class"
	"lapidary/kernel"
	"lapidary/run"
	"lapidary/view"
)

// others are sources of values that are no number, no text, no block, and no class.
var others = []string{"nil", "true", "false", "#()", "Root", "Object new", "RcBag new", "RcCounter new", "[]"}

// P15.2: every native of the kernel is done: none is "does not understand".
func TestEveryNative(t *testing.T) {
	receivers := map[int64]string{1: "Object new", 2: "Object", 6: "3", 7: "(1 im: 2)", 8: "'abc'", 9: "#abc", 10: "#(1 2)", 11: "[]", 12: "Dictionary new", 13: "RcCounter new", 14: "RcBag new"}
	for c := int64(1); c <= class.Bag; c++ {
		for _, selector := range kernel.Natives(c) {
			source := receivers[c] + " " + message(selector, "nil")
			if got := came(t, world(t, nil), source); strings.HasPrefix(got, "! does not") {
				t.Errorf("%q: %s", source, got)
			}
		}
	}
}

// message is a native as a message of which all arguments are x.
func message(selector, x string) string {
	switch {
	case strings.Contains(selector, ":"):
		return strings.TrimSpace(strings.ReplaceAll(selector, ":", ": "+x+" "))
	case strings.ContainsAny(selector, `+-*/\<=,`):
		return selector + " " + x
	}
	return selector
}

// P15.2: receivers that come to a native of a class that is above theirs, but are not of that class.
func TestWrongReceivers(t *testing.T) {
	for c := int64(class.Class); c <= class.Bag; c++ {
		v := world(t, map[int64]api.Obj{
			class.Root: slots(class.Dictionary, ref(free), ref(free+1)),
			free:       text(class.Symbol, "A"),
			free + 1:   {Class: free + 2, Slots: []api.Val{integer(1), integer(2)}, Bytes: []byte("\x00\x05")},
			free + 2:   below(c, free+3),
			free + 3:   slots(class.Array),
			class.Nil:  below(c, free+3),
		})
		for _, selector := range kernel.Natives(c) {
			if slices.Contains(kernel.Natives(class.Object), selector) {
				continue
			}
			for _, x := range []string{"1", "[false]", "'a'"} {
				for _, r := range []string{"nil ", "A "} {
					if got := came(t, v.Copy(), r+message(selector, x)); got != "! wrong kind" {
						t.Errorf("%s of %s: %s", r+message(selector, x), kernel.Name(c), got)
					}
				}
			}
		}
	}
}

// P15.2: natives of Object.
func TestObjectNatives(t *testing.T) {
	wants(t, rooted(t, text(class.Symbol, "a"), text(class.Symbol, "a"), text(class.Symbol, "b"), text(class.String, "a"), text(class.String, "a")),
		"3 == 3", "true", "3 == 4", "false", "nil == nil", "true", "nil == false", "false", "0 == nil", "false", "true == true", "true",
		"#a == #a", "true", "#a == #b", "false", "#a == 'a'", "false", "'a' == #a", "false", "'a' == 'a'", "false",
		"| a | a := 'a'. a == a", "true",
		"1152921504606846976 == 1152921504606846976", "false",
		"| a | a := 1152921504606846976. a == a", "true",
		"#() == #()", "false", "Object == Object", "true", "Root == Root", "true", "#a == nil", "false", "nil == #a", "false",
		"A == A", "true", "A == B", "true", "A == C", "false", "A == D", "false", "D == E", "false", "D == D", "true",
		"(Object new == Object new) == false", "true",
		"3 class", "class Integer", "nil class", "class UndefinedObject", "Object class", "class Class", "Class class", "class Class", "[] class", "class Block",
		"'a' class", "class String", "Root class", "class Dictionary", "(1 im: 2) class", "class Complex", "1152921504606846976 class", "class Integer",
		"Object new error: 'a b'", "! a b", "nil error: ''", "! error", "nil error: #a", "! error", "nil error: 3", "! error", "nil error: nil", "! error",
		"3 error: 'x'", "! x", "[3 error: 'it''s'] onError: [:e | e]", `"it's"`, "D error: D", "! a",
	)
}

// P15.2: what == reads: nothing, if both are the same value; else the texts of Symbols. class reads no object, error: its argument.
func TestObjectNativesRead(t *testing.T) {
	lay := func() *view.View {
		return rooted(t, text(class.Symbol, "a"), text(class.Symbol, "b"), text(class.String, "c"), slots(class.Array), slots(class.Array))
	}
	for source, want := range map[string][]int64{
		"A == A":                          nil,
		"A == B":                          {thingsAt, thingsAt + 1},
		"D class":                         nil,
		"C class":                         nil,
		"[nil error: C] onError: []":      {thingsAt + 2},
		"[nil error: B] onError: []":      {thingsAt + 1},
		"[D error: nil] onError: []":      nil,
		"3 == D":                          nil,
		"[D foo] onError: [:e | e == 3 ]": nil,
	} {
		v := lay()
		over(t, v, source)
		got := slices.DeleteFunc(v.Reads(), func(oop int64) bool { return oop < thingsAt || oop >= free })
		if !slices.Equal(got, want) {
			t.Errorf("%q has read %v, want %v", source, got, want)
		}
		if len(v.Writes()) != 0 {
			t.Errorf("%q has written %v", source, v.Writes())
		}
	}
}

// P15.2: new and new: by the words of class.New.
func TestNewNatives(t *testing.T) {
	v := world(t, nil)
	do(t, v, "Object subclass: #P slots: 'x y'")
	wants(t, v,
		"Object new", "Object()", "P new", "P(nil nil)", "P new: 0", "P(nil nil)", "P new: 1", "! wrong argument", "P new: 0 - 1", "! wrong argument",
		"Array new", "Array()", "Array new: 3", "Array(nil nil nil)", "(Array new: 256) size", "256", "Array new: 257", "! too large", "Array new: 0 - 1", "! wrong argument",
		"Array new: 1152921504606846975", "! too large",
		"String new", `""`, "String new: 2", `"\x00\x00"`, "(String new: 1024) size", "1024", "String new: 1025", "! too large",
		"Dictionary new", "Dictionary()", "Dictionary new: 5", "Dictionary()", "RcBag new", "RcBag()", "RcCounter new", "RcCounter(0)", "RcCounter new: 4", "RcCounter(0)",
		"Symbol new", "! wrong kind", "Integer new", "! wrong kind", "Complex new", "! wrong kind", "Class new", "! wrong kind", "Block new", "! wrong kind", "True new", "! wrong kind", "UndefinedObject new", "! wrong kind",
	)
	for _, x := range append([]string{"'a'", "#a", "1152921504606846976", "(1 im: 2)"}, others...) {
		wants(t, v, "Array new: "+x, "! wrong kind")
	}
	v = world(t, nil)
	fill(t, v, 0)
	wants(t, v, "Array new: 3", "! no room", "Object new", "! no room")
}

// P15.2: objects of Class that are no classes.
func TestNoClasses(t *testing.T) {
	wants(t, rooted(t, text(class.Class, "Odd"), slots(class.Class, integer(7), integer(8), integer(9)), slots(class.Class, api.Val{}, ref(16), ref(missing))),
		"A name", `"Odd"`, "A superclass", "! no such place", "A new", "! wrong kind", "A new: 3", "! wrong kind", "A compile: 'foo'", "! wrong kind", "A subclass: #P slots: ''", "! wrong kind",
		"B name", `""`, "B superclass", "7", "B new", "! wrong kind",
		"C name", `""`, "C superclass", "nil", "C compile: 'foo'", "! not there", "C compile: 'foo ]'", "! no program",
	)
}

// P15.2: name and superclass.
func TestClassNatives(t *testing.T) {
	v := world(t, nil)
	wants(t, v,
		"Object name", `"Object"`, "RcBag name", `"RcBag"`, "Array name size", "5", "Array name == Array name", "false",
		"Object superclass", "nil", "Array superclass", "class Object", "Class superclass", "class Object",
		"Object subclass: #P slots: ''", "class P", "P name", `"P"`, "P superclass", "class Object", "P subclass: #Q slots: ''. Q superclass", "class P",
	)
}

// P15.2: subclass:slots: makes a class, which stands in the root under the Symbol that was given, in its place if there is one.
func TestSubclass(t *testing.T) {
	v := world(t, nil)
	wants(t, v,
		"Object subclass: #P slots: 'x y'", "class P", "P new", "P(nil nil)", "Root at: #P", "class P",
		"P subclass: #Q slots: 'z'", "class Q", "Q new", "Q(nil nil nil)",
		"P subclass: #R slots: '  a   b  '. R new", "R(nil nil nil nil)", "P subclass: #R2 slots: '	a\nb\rc '. R2 new", "R2(nil nil nil nil nil)",
		"P subclass: #S slots: ''. S new", "S(nil nil)", "P subclass: #T slots: '   '. T new", "T(nil nil)",
		"Root size", "6",
		"Object subclass: #P slots: ''. P new", "P()", "Root size", "6", "Q superclass == P", "false",
		"| s | s := #U. Object subclass: s slots: ''. s == #U", "true",
		"Object subclass: 'V' slots: ''", "! wrong kind", "Object subclass: #V slots: #x", "! wrong kind", "Object subclass: nil slots: ''", "! wrong kind", "Object subclass: #V slots: 3", "! wrong kind", "Object subclass: 3 slots: nil", "! wrong kind",
		"Object subclass: #v slots: ''", "! no such name", "Object subclass: #V: slots: ''", "! no such name", "Object subclass: #'' slots: ''", "! no such name", "Object subclass: #V slots: 'X'", "! no such name",
		"Object subclass: #V slots: 'x x'", "! no such name", "Object subclass: #V slots: 'self'", "! no such name", "Object subclass: #V slots: 'x,y'", "! no such name",
		"Array subclass: #V slots: ''", "! wrong kind", "Class subclass: #V slots: ''", "! wrong kind", "RcBag subclass: #V slots: ''", "! wrong kind",
		"Object subclass: #V slots: 'a b c d e f g h i j k l m n o p q r s t u v w x y z aa bb cc dd'. V new class", "class V",
		"Object subclass: #W slots: 'a b c d e f g h i j k l m n o p q r s t u v w x y z aa bb cc dd ee'", "! too large",
		"V subclass: #W slots: 'zz'", "! too large", "W", "! no such name",
		"Object subclass: #Array slots: ''. Array", "class Array", "(Root at: #Array) == Array", "false",
	)
}

// P15.2: what subclass:slots: reads and writes; what it leaves where the root has no room, is none, or is not there.
func TestSubclassRoot(t *testing.T) {
	v := world(t, nil)
	do(t, v, "Object subclass: #P slots: 'x'")
	if !slices.Equal(v.Writes(), []int64{class.Root}) || !has(v.Reads(), class.Root) || !has(v.Reads(), class.Object) {
		t.Error("read", v.Reads(), "written", v.Writes())
	}
	if key := peek(t, v, class.Root).Slots[0]; key != ref(api.MaxOops+1) {
		t.Error("the key is not the Symbol that was given:", key)
	}
	full := slots(class.Dictionary)
	for i := range int64(api.MaxSlots / 2) {
		full.Slots = append(full.Slots, integer(i), integer(i))
	}
	for want, root := range map[string]api.Obj{"! no room": full, "! wrong kind": slots(class.Array)} {
		v := world(t, map[int64]api.Obj{class.Root: root})
		wants(t, v, "Object subclass: #P slots: 'x'", want)
		if len(v.Writes()) != 0 || len(v.News()) != 2+3 {
			t.Errorf("%s: written %v, made %v", want, v.Writes(), v.News())
		}
	}
	wants(t, world(t, map[int64]api.Obj{class.Root: full}), "Root removeKey: 5. Object subclass: #P slots: 'x'. P new", "P(nil)")
	for left := range 6 {
		v := world(t, nil)
		fill(t, v, left)
		want := "! no room"
		if left == 5 {
			want = "class P"
		}
		wants(t, v, "Object subclass: #P slots: 'x'", want)
		if has(v.Writes(), class.Root) != (left == 5) {
			t.Error("written", v.Writes())
		}
	}
}

// P15.2: compile: defines a method, and answers a new Symbol of its selector.
func TestCompile(t *testing.T) {
	v := world(t, nil)
	do(t, v, "Object subclass: #P slots: 'x'")
	wants(t, v,
		"P compile: 'foo ^3'", "#foo", "P new foo", "3", "P compile: 'foo ^4'. P new foo", "4", "P compile: 'at: a put: b ^b'", "#at:put:", "P compile: '+ a ^a'", "#+", "P new + 5", "5",
		"P compile: 'foo ]'", "! no program", "P compile: ''", "! no program", "P compile: 'foo ^z'", "! no such name", "P compile: 'foo ^x'", "#foo", "P new foo", "nil",
		"P compile: #foo", "! wrong kind", "P compile: nil", "! wrong kind", "P compile: 3", "! wrong kind",
		"Integer compile: 'twice ^self + self'. 4 twice", "8", "Object compile: 'me ^self'. nil me", "nil",
		"P compile: 'foo ^"+strings.Repeat("(", 41)+"3"+strings.Repeat(")", 41)+"'", "! too large",
	)
	for left, want := range []string{"! no room", "! no room", "! no room", "! no room", "#foo"} {
		v := world(t, nil)
		fill(t, v, left)
		wants(t, v, "Object compile: 'foo ^3'", want)
	}
	full := slots(class.Array)
	full.Slots = make([]api.Val, api.MaxSlots)
	wants(t, world(t, map[int64]api.Obj{21: full}), "Object compile: 'foo ^3'", "! no room")
}

// P15.2: natives of String and Symbol.
func TestTextNatives(t *testing.T) {
	v := world(t, nil)
	wants(t, v,
		"'' size", "0", "'abc' size", "3", "'\xff\xc3\xa4' size", "3",
		"'abc' at: 1", "97", "'abc' at: 3", "99", "'\xff' at: 1", "255", "'abc' at: 0", "! no such place", "'abc' at: 4", "! no such place", "'abc' at: 0 - 1", "! no such place", "'' at: 1", "! no such place",
		"'abc' at: 1152921504606846975", "! no such place", "'abc' at: 1152921504606846976", "! wrong kind", "'abc' at: nil", "! wrong kind", "'abc' at: '1'", "! wrong kind",
		"'abc' at: 2 put: 120", "120", "| s | s := 'abc'. s at: 2 put: 120. s", `"axc"`, "| s | s := 'abc'. s at: 1 put: 0; at: 3 put: 255. s", `"\x00b\xff"`,
		"'abc' at: 0 put: 1", "! no such place", "'abc' at: 4 put: 1", "! no such place", "'abc' at: nil put: 1", "! wrong kind", "'abc' at: 1152921504606846976 put: 1", "! wrong kind",
		"'abc' at: 1 put: 256", "! wrong argument", "'abc' at: 1 put: 0 - 1", "! wrong argument", "'abc' at: 1 put: nil", "! wrong argument", "'abc' at: 1 put: 'x'", "! wrong argument", "'abc' at: 1 put: [3]", "! wrong argument",
		"'abc' at: 9 put: 256", "! wrong argument", "'abc' at: nil put: 256", "! wrong kind",
		"'ab' , 'cd'", `"abcd"`, "'' , ''", `""`, "'ab' , #cd", "! wrong kind", "'ab' , nil", "! wrong kind", "'ab' , 3", "! wrong kind",
		"((String new: 1000) , (String new: 24)) size", "1024", "(String new: 1000) , (String new: 25)", "! wrong argument",
		"'abc' = 'abc'", "true", "'abc' = 'abd'", "false", "'abc' = 'ab'", "false", "'abc' = #abc", "false", "'abc' = nil", "false", "'' = ''", "true", "'a' = 97", "false",
		"'abc' asSymbol", "#abc", "'a b' asSymbol", "#a b", "'' asSymbol", "#", "'abc' asSymbol == #abc", "true",
		"#abc size", "3", "#'' size", "0", "#abc = #abc", "true", "#abc = #abd", "false", "#abc = 'abc'", "false", "#abc = nil", "false", "#abc asString", `"abc"`, "#'it''s' asString", `"it's"`, "#at:put: asString", `"at:put:"`,
		"#abc asString == #abc asString", "false",
	)
	for _, x := range others {
		wants(t, v, "'a' at: "+x, "! wrong kind", "'a' , "+x, "! wrong kind", "'a' = "+x, "false", "#a = "+x, "false", "'a' at: 1 put: "+x, "! wrong argument")
	}
	fill(t, v, 1)
	wants(t, v, "'abc' asSymbol", "! no room")
}

// P15.2: natives of Array.
func TestArrayNatives(t *testing.T) {
	v := world(t, nil)
	wants(t, v,
		"#() size", "0", "#(1 2 3) size", "3", "#(1 2 3) at: 1", "1", "#(1 2 3) at: 3", "3", "#(1 2) at: 0", "! no such place", "#(1 2) at: 3", "! no such place", "#(1 2) at: 0 - 1", "! no such place", "#() at: 1", "! no such place",
		"#(1) at: 1152921504606846976", "! wrong kind", "#(1) at: '1'", "! wrong kind",
		"#(1 2) at: 2 put: 'x'", `"x"`, "| a | a := #(1 2). a at: 2 put: a. a", "Array(1 Array(1 Array(1 Array(1 Array(1 Array(1 ..))))))",
		"| a | a := #(1 2). a at: 1 put: nil; at: 2 put: true. a", "Array(nil true)",
		"#(1 2) at: 1 put: [3]", "! can not be kept", "#(1 2) at: 3 put: [3]", "! no such place", "#(1 2) at: nil put: 3", "! wrong kind", "#(1 2) at: 0 put: 3", "! no such place",
		"| a | a := #(1 2). [a at: 1 put: []] onError: []. a", "Array(1 2)",
		"#(1 2) = #(1 2)", "false",
	)
	for _, x := range others {
		wants(t, v, "#(1) at: "+x, "! wrong kind", "#(1) at: "+x+" put: 3", "! wrong kind")
	}
}

// P15.2: what natives of texts and lists read and write, of objects of the commit; also where they end by an error.
func TestListNativesRead(t *testing.T) {
	type did struct{ read, written []int64 }
	const a, b, c, d, e = thingsAt, thingsAt + 1, thingsAt + 2, thingsAt + 3, thingsAt + 4
	for source, want := range map[string]did{
		"A size":                      {[]int64{a}, nil},
		"A at: 1":                     {[]int64{a}, nil},
		"A at: 9":                     {[]int64{a}, nil},
		"A at: nil":                   {[]int64{a}, nil},
		"A at: 1 put: 65":             {[]int64{a}, []int64{a}},
		"A at: 9 put: 65":             {[]int64{a}, nil},
		"A at: 1 put: nil":            {[]int64{a}, nil},
		"A , B":                       {[]int64{a, b}, nil},
		"A , C":                       {[]int64{a, c}, nil},
		"A = B":                       {[]int64{a, b}, nil},
		"A = 3":                       {[]int64{a}, nil},
		"A asSymbol":                  {[]int64{a}, nil},
		"C size":                      {[]int64{c}, nil},
		"C = B":                       {[]int64{b, c}, nil},
		"C asString":                  {[]int64{c}, nil},
		"D size":                      {[]int64{d}, nil},
		"D at: 1":                     {[]int64{d}, nil},
		"D at: 9":                     {[]int64{d}, nil},
		"D at: 1 put: B":              {[]int64{d}, []int64{d}},
		"D at: 1 put: []":             {[]int64{d}, nil},
		"E size":                      {[]int64{e}, nil},
		"E at: 1":                     {[]int64{e}, nil},
		"E at: 2":                     {[]int64{e}, nil},
		"E at: A":                     {[]int64{a, b, e}, nil},
		"E includesKey: C":            {[]int64{b, c, e}, nil},
		"E at: 1 put: 5":              {[]int64{e}, []int64{e}},
		"E at: 5 put: D":              {[]int64{e}, []int64{e}},
		"E at: 5 put: []":             {[]int64{e}, nil},
		"E removeKey: B":              {[]int64{e}, []int64{e}},
		"E removeKey: 7":              {[]int64{e}, nil},
		"Object subclass: C slots: A": {[]int64{a, c}, nil},
		"Object subclass: A slots: B": {[]int64{a}, nil},
		"Object subclass: C slots: D": {[]int64{c, d}, nil},
		"Object compile: A":           {[]int64{a}, nil},
		"Object compile: D":           {[]int64{d}, nil},
	} {
		v := rooted(t, text(class.String, "abc"), text(class.String, "abd"), text(class.Symbol, "abc"), slots(class.Array, integer(7)), slots(class.Dictionary, integer(1), integer(2), ref(b), integer(3)))
		over(t, v, source)
		only := func(list []int64) []int64 {
			return slices.DeleteFunc(list, func(oop int64) bool { return oop < thingsAt || oop >= free })
		}
		if got := only(v.Reads()); !slices.Equal(got, want.read) {
			t.Errorf("%q has read %v, want %v", source, got, want.read)
		}
		if got := only(v.Writes()); !slices.Equal(got, want.written) {
			t.Errorf("%q has written %v, want %v", source, got, want.written)
		}
	}
}

// P15.2: natives of Dictionary.
func TestDictionaryNatives(t *testing.T) {
	v := world(t, nil)
	set := "| d | d := Dictionary new. d at: 1 put: 10; at: #a put: 20; at: 'a' put: 30; at: 1152921504606846976 put: 40; at: (1 im: 2) put: 50; at: nil put: 60; at: true put: 70. "
	wants(t, v,
		"Dictionary new size", "0", "Dictionary new at: 1", "! no such key", "Dictionary new removeKey: 1", "! no such key", "Dictionary new includesKey: 1", "false",
		set+"d size", "7", set+"d at: 1", "10", set+"d at: #a", "20", set+"d at: 'a'", "30", set+"d at: 1152921504606846976", "40", set+"d at: (1 im: 2)", "50", set+"d at: nil", "60", set+"d at: true", "70",
		set+"d at: 2", "! no such key", set+"d at: #b", "! no such key", set+"d at: 'b'", "! no such key", set+"d at: false", "! no such key", set+"d at: (1 im: 3)", "! no such key", set+"d at: []", "! no such key", set+"d at: #()", "! no such key",
		set+"d includesKey: 'a'", "true", set+"d includesKey: 'b'", "false", set+"d includesKey: []", "false",
		set+"d at: 'a' put: 31", "31", set+"d at: 'a' put: 31. d at: 'a'", "31", set+"d at: 'a' put: 31. d size", "7", set+"d at: #a put: 21. d at: 'a'", "30", set+"d at: 'c' put: 1. d size", "8",
		set+"d removeKey: #a", "20", set+"d removeKey: #a. d size", "6", set+"d removeKey: #a. d at: #a", "! no such key", set+"d removeKey: #a. d at: 'a'", "30", set+"d removeKey: 3", "! no such key",
		"Dictionary new at: 1 put: 2; at: 3 put: 4; at: 1 put: 5; yourself", "Dictionary(1 5 3 4)",
		"| d | d := Dictionary new. d at: 1 put: 2; at: 3 put: 4; removeKey: 1; at: 1 put: 6. d", "Dictionary(3 4 1 6)",
		"Dictionary new at: [] put: 2", "! can not be kept", "Dictionary new at: 2 put: []", "! can not be kept", set+"d at: 1 put: []", "! can not be kept", set+"[d at: 1 put: []] onError: []. d at: 1", "10",
		"| d a | d := Dictionary new. a := #(1). d at: a put: 2; at: #(1) put: 3. (d at: a) * 10 + d size", "22",
		"| d | d := Dictionary new. d at: d put: d. (d at: d) == d", "true",
	)
	v = world(t, nil)
	many := "| d | d := Dictionary new. 1 to: 128 do: [:i | d at: i put: i]. "
	wants(t, v,
		many+"d size", "128", many+"d at: 129 put: 1", "! no room", many+"d at: 128 put: 7", "7", many+"d at: 129 put: []", "! no room", many+"[d at: 129 put: 1] onError: []. d size", "128", many+"d removeKey: 5. d at: 129 put: 1. d size", "128",
		many+"d at: 128 put: []", "! can not be kept",
	)
}

// P15.2: a Dictionary with a key that has no value is asked for its pairs alone.
func TestDictionaryOdd(t *testing.T) {
	wants(t, rooted(t, slots(class.Dictionary, integer(1), integer(2), integer(3))),
		"A size", "1", "A at: 1", "2", "A at: 3", "! no such key", "A includesKey: 3", "false", "A removeKey: 1", "2",
	)
}

// P15.2: Equal: the same value, or objects of one class from Integer to Symbol with the same bytes, both of which are read.
func TestEqual(t *testing.T) {
	v := world(t, map[int64]api.Obj{
		free: text(class.String, "a"), free + 1: text(class.String, "a"), free + 2: text(class.String, "b"), free + 3: text(class.Symbol, "a"), free + 4: text(class.Symbol, "a"),
		free + 5: text(class.Integer, "\x00\x10"), free + 6: text(class.Integer, "\x00\x10"), free + 7: text(class.Complex, "a"), free + 8: text(class.Complex, "a"),
		free + 9: text(class.Array, "a"), free + 10: text(class.Array, "a"), free + 11: text(class.True, "a"), free + 12: text(class.True, "a"), free + 13: {Class: class.String, Slots: []api.Val{integer(1)}, Bytes: []byte("a")},
	})
	cases := []struct {
		a, b  api.Val
		want  bool
		reads bool
	}{
		{api.Val{}, api.Val{}, true, false},
		{integer(3), integer(3), true, false},
		{integer(3), integer(4), false, false},
		{api.Val{}, api.Val{K: api.False}, false, false},
		{integer(0), api.Val{}, false, false},
		{api.Val{K: api.Block, N: 3}, api.Val{K: api.Block, N: 3}, true, false},
		{api.Val{K: api.Block, N: 3}, api.Val{K: api.Block, N: 4}, false, false},
		{api.Val{K: 77}, api.Val{K: 77}, true, false},
		{api.Val{K: 77}, api.Val{K: -1}, false, false},
		{ref(free), ref(free), true, false},
		{ref(missing), ref(missing), true, false},
		{ref(free), ref(free + 1), true, true},
		{ref(free), ref(free + 2), false, true},
		{ref(free), ref(free + 3), false, true},
		{ref(free + 3), ref(free + 4), true, true},
		{ref(free + 5), ref(free + 6), true, true},
		{ref(free + 7), ref(free + 8), true, true},
		{ref(free + 9), ref(free + 10), false, true},
		{ref(free + 11), ref(free + 12), false, true},
		{ref(free), ref(free + 13), true, true},
		{ref(free), ref(missing), false, true},
		{ref(missing), ref(missing + 1), false, true},
		{ref(free), integer(free), false, false},
		{ref(free), api.Val{}, false, false},
	}
	for _, c := range cases {
		for range 2 {
			w := v.Copy()
			if got := run.Equal(w, c.a, c.b); got != c.want {
				t.Errorf("Equal(%v, %v) = %v", c.a, c.b, got)
			}
			if read := has(w.Reads(), c.a.N) && has(w.Reads(), c.b.N); read != c.reads || !c.reads && len(w.Reads()) != 0 {
				t.Errorf("Equal(%v, %v) has read %v", c.a, c.b, w.Reads())
			}
			for _, w := range []*view.View{nil, {}} {
				if got := run.Equal(w, c.a, c.b); got != (c.a == c.b) {
					t.Errorf("Equal(%v, %v) of no objects = %v", c.a, c.b, got)
				}
			}
			c.a, c.b = c.b, c.a
		}
	}
}
