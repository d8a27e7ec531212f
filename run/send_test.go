package run_test

import (
	"slices"
	"strings"
	"testing"

	"lapidary/api"
	"lapidary/class"
	"lapidary/kernel"
)

// P15.2: which class a value's messages are looked for in.
func TestClassOfMessages(t *testing.T) {
	v := world(t, nil)
	for c := int64(1); c <= class.Bag; c++ {
		do(t, v, kernel.Name(c)+" compile: 'who ^''"+kernel.Name(c)+"'''")
	}
	wants(t, v,
		"nil who", `"UndefinedObject"`,
		"false who", `"False"`,
		"true who", `"True"`,
		"3 who", `"Integer"`,
		"1152921504606846976 who", `"Integer"`,
		"(1 im: 2) who", `"Complex"`,
		"'a' who", `"String"`,
		"#a who", `"Symbol"`,
		"#() who", `"Array"`,
		"[] who", `"Block"`,
		"Root who", `"Dictionary"`,
		"RcCounter new who", `"RcCounter"`,
		"RcBag new who", `"RcBag"`,
		"Object new who", `"Object"`,
		"Object who", `"Class"`,
		"self who", `"UndefinedObject"`,
	)
}

// P15.2: messages that nobody understands; of objects that are not there, or whose class is none.
func TestNotUnderstood(t *testing.T) {
	v := world(t, map[int64]api.Obj{
		class.Root: slots(class.Dictionary, ref(free), ref(missing), ref(free+1), ref(free+2)),
		free:       text(class.Symbol, "A"),
		free + 1:   text(class.Symbol, "B"),
		free + 2:   slots(missing + 1),
	})
	wants(t, v,
		"nil foo", "! does not understand foo",
		"3 foo: 1 bar: 2", "! does not understand foo:bar:",
		"3 @ 4", "! does not understand @",
		"3 at: 4", "! does not understand at:",
		"(1 im: 2) < 3", "! does not understand <",
		"(1 im: 2) // 3", "! does not understand //",
		"#a , #b", "! does not understand ,",
		"nil value", "! does not understand value",
		"A foo", "! does not understand foo",
		"A == A", "! does not understand ==",
		"A isNil", "! does not understand isNil",
		"B foo", "! does not understand foo",
		"B class", "! does not understand class",
		"[nil foo: 3] onError: [:e | e]", `"does not understand foo:"`,
	)
	long := strings.Repeat("a", 3000)
	wants(t, v,
		"nil "+long, "! does not understand "+long,
		"[nil "+long[:1004]+"] onError: [:e | e size]", "1024",
		"[nil "+long[:1005]+"] onError: [:e | e size]", "! wrong argument",
		"[nil "+long[:1005]+"] onError: [7]", "7",
	)
}

// P15.2: a method ahead of a native of the same class; a native ahead of a method of a class above; a method of a class ahead of all above it.
func TestMethodsAndNatives(t *testing.T) {
	v := world(t, nil)
	wants(t, v,
		"Object compile: 'size ^99'. #(1 2) size", "2",
		"Object compile: '+ x ^98'. 3 + 4", "7",
		"'a' size", "1",
		"3 size", "99",
		"'a' + 3", "98",
		"Integer compile: '+ x ^97'. 3 + 4", "97",
		"(1 im: 2) + 3", "complex 4 2",
		"Object compile: '== x ^96'. 3 == 3", "96",
		"Object compile: '= x ^95'. 3 = 3", "true",
		"nil = 3", "95",
		"Array compile: 'at: x ^94'. #(1 2) at: 1", "94",
		"Object subclass: #P slots: ''. P compile: 'class ^93'. P new class", "93",
		"P compile: 'new ^92'. P new", "P()",
		"Class compile: 'new ^91'. P new", "91",
		"Block compile: 'value ^90'. [1] value", "90",
		"Block compile: 'whileTrue: b ^89'. [1] whileTrue: 3", "89",
	)
}

// P15.2: all of a chain, its methods up to what is found, and the class's names are read; the receiver is not.
func TestMessageReads(t *testing.T) {
	v := world(t, map[int64]api.Obj{
		class.Root: slots(class.Dictionary, ref(free), ref(free+1)),
		free:       text(class.Symbol, "A"),
		free + 1:   slots(free + 3),
		free + 2:   below(1, free+4),
		free + 3:   below(free+2, free+5),
		free + 4:   slots(class.Array, ref(free+6), ref(free+7)),
		free + 5:   slots(class.Array, ref(free+8), ref(free+9)),
		free + 6:   text(class.Symbol, "foo"), free + 7: text(class.String, "foo ^3"),
		free + 8: text(class.Symbol, "bar"), free + 9: text(class.String, "bar ^super foo"),
	})
	object := []int64{41, 43, 45, 47, 49} // the Symbols of Object's methods
	cases := []struct {
		source, want string
		reads        []int64
	}{
		{"A", "P", []int64{15, free}},
		{"A bar: 1", "! does not understand bar:", append([]int64{1, 15, 21, free, free + 2, free + 3, free + 4, free + 5, free + 6, free + 8}, object...)},
		{"A foo", "3", []int64{1, 15, 16, free, free + 2, free + 3, free + 4, free + 5, free + 6, free + 7, free + 8}},
		{"A bar", "3", []int64{1, 15, 16, free, free + 2, free + 3, free + 4, free + 5, free + 6, free + 7, free + 8, free + 9}},
		{"A class", "class", append([]int64{1, 15, 21, free, free + 2, free + 3, free + 4, free + 5, free + 6, free + 8}, object...)},
		{"A isNil", "false", []int64{1, 15, 16, 21, 41, 42, free, free + 2, free + 3, free + 4, free + 5, free + 6, free + 8}},
	}
	for _, c := range cases {
		w := v.Copy()
		got := came(t, w, c.source)
		if !strings.HasPrefix(got, c.want) && c.want != "P" {
			t.Errorf("%q: %s, want %s", c.source, got, c.want)
		}
		slices.Sort(c.reads)
		if reads := w.Reads(); !slices.Equal(reads, c.reads) {
			t.Errorf("%q has read %v, want %v", c.source, reads, c.reads)
		}
	}
}

// P15.2: super begins above the class that has the method, from within blocks too; of the source above UndefinedObject.
func TestSuper(t *testing.T) {
	v := world(t, nil)
	do(t, v, "Object subclass: #P slots: ''", "P subclass: #Q slots: ''", "Q subclass: #R slots: ''",
		"P compile: 'foo ^#P'", "Q compile: 'foo ^#Q'", "R compile: 'foo ^#R'",
		"Q compile: 'up ^super foo'", "Q compile: 'down ^self foo'", "Q compile: 'block ^[[:x | super foo] value: 3] value'",
		"P compile: 'class ^#mine'", "Q compile: 'class ^super class'", "P compile: 'kind ^super class'",
		"P compile: 'with: a ^a'", "Q compile: 'with: a ^super with: a * 2'", "R compile: 'with: a ^super with: a + 1'",
		"P compile: 'none ^super none'", "Q compile: 'me ^super == self'", "Q compile: 'many ^super foo; foo; with: 3'")
	wants(t, v,
		"R new up", "#P",
		"Q new up", "#P",
		"R new down", "#R",
		"R new block", "#P",
		"R new class", "#mine",
		"R new kind", "class R",
		"R new with: 10", "22",
		"P new none", "! does not understand none",
		"R new me", "true",
		"R new many", "3",
		"super isNil", "false",
		"self isNil", "true",
		"super class", "class UndefinedObject",
		"[super isNil] value", "false",
		"super foo", "! does not understand foo",
		"Object compile: 'up ^super class'. 3 up", "! does not understand class",
	)
}

// P15.2: the class above which a message to super begins is read: of the source UndefinedObject.
func TestSuperReads(t *testing.T) {
	v := world(t, nil)
	wants(t, v, "super class", "class UndefinedObject")
	if got := v.Reads(); !has(got, class.Nil) || !has(got, class.Object) {
		t.Error("read were", got)
	}
}

// P15.2: above a class whose first slot is no Ref there is nothing; what is there is read.
func TestSuperOfNone(t *testing.T) {
	methods := slots(class.Array, ref(free+1), ref(free+2))
	for name, o := range map[string]api.Obj{
		"Nil":       slots(class.Class, api.Val{}, ref(16), ref(free+3)),
		"no class":  slots(class.Class, ref(16), ref(16), ref(free+3)),
		"not there": slots(class.Class, ref(missing), ref(16), ref(free+3)),
	} {
		v := world(t, map[int64]api.Obj{
			class.Root: slots(class.Dictionary, ref(free+4), ref(free+5)),
			free:       o,
			free + 1:   text(class.Symbol, "foo"),
			free + 2:   text(class.String, "foo ^super class"),
			free + 3:   methods,
			free + 4:   text(class.Symbol, "A"),
			free + 5:   slots(free),
		})
		wants(t, v, "A foo", "! does not understand class")
		if !has(v.Reads(), free) {
			t.Error(name, "read were", v.Reads())
		}
		if above := o.Slots[0]; above.K == api.Ref && !has(v.Reads(), above.N) {
			t.Error(name, "read were", v.Reads())
		}
	}
	// a class that is one no more, when its method sends the message
	for name, o := range map[string]api.Obj{
		"Int":      slots(class.Class, integer(1), ref(16), ref(free+3)),
		"True":     slots(class.Class, api.Val{K: api.True}, ref(16), ref(free+3)),
		"no slots": slots(class.Class),
	} {
		v := world(t, map[int64]api.Obj{
			class.Root: slots(class.Dictionary, ref(free+4), ref(free+5)),
			free:       slots(class.Class, ref(1), ref(16), ref(free+3)),
			free + 1:   text(class.Symbol, "foo"),
			free + 2:   text(class.String, "foo 3 yourself. ^super class"),
			free + 3:   methods,
			free + 4:   text(class.Symbol, "A"),
			free + 5:   slots(free),
		})
		r := start(t, v, "A foo")
		r.Go(3)
		put(t, v, free, o)
		r.Go(100)
		if got := result(v, r); got != "! does not understand class" {
			t.Error(name, got)
		}
	}
}

// P15.2: a method whose source is no method of its class's names any more.
func TestNoProgram(t *testing.T) {
	for source, want := range map[string]string{
		"foo ^3":      "3",
		"foo ^x":      "nil",
		"foo":         "P(nil)",
		"foo ^z":      "! no program",
		"foo ]":       "! no program",
		"":            "! no program",
		"3":           "! no program",
		"foo x := [":  "! no program",
		"foo ^'":      "! no program",
		"foo ^\x00":   "! no program",
		"foo Root::3": "! no program",
	} {
		v := world(t, nil)
		do(t, v, "Object subclass: #P slots: 'x'", "P compile: 'foo ^x'")
		source := text(class.String, source)
		for _, oop := range v.News() {
			if o := peek(t, v, oop); string(o.Bytes) == "foo ^x" && o.Class == class.String {
				put(t, v, oop, source)
			}
		}
		r := over(t, v, "P new foo")
		if got := result(v, r); got != want {
			t.Errorf("%q: %s, want %s", source.Bytes, got, want)
		}
		if _, failure := r.Value(); failure != "" && r.Steps() != 2 {
			t.Errorf("%q: %d steps", source.Bytes, r.Steps())
		}
		if _, failure := r.Value(); failure != "" {
			wants(t, v, "[P new foo] onError: [:e | e]", `"no program"`)
		}
	}
	v := world(t, nil) // names that are no more
	do(t, v, "Object subclass: #P slots: 'x'", "P compile: 'foo ^x'", "P new foo")
	for _, oop := range v.News() {
		if o := peek(t, v, oop); string(o.Bytes) == "x" && o.Class == class.String {
			put(t, v, oop, text(class.String, "y"))
		}
	}
	wants(t, v, "P new foo", "! no program")
}

// P15.1: a source under a selector that is not its own does not stop the run, whatever arguments it has.
func TestOtherSelector(t *testing.T) {
	for source, want := range map[string]string{
		"bar ^3":                "3",
		"bar: a ^a":             "1",
		"bar: a b: b ^b":        "2",
		"a: a b: b c: c ^c":     "nil",
		"a: a b: b c: c ^a + b": "3",
		"+ a ^a":                "1",
		"bar | t | ^t":          "nil",
	} {
		v := world(t, map[int64]api.Obj{
			class.Root: slots(class.Dictionary, ref(free+4), ref(free+5)),
			free:       below(1, free+3),
			free + 1:   text(class.Symbol, "foo:with:"),
			free + 2:   text(class.String, source),
			free + 3:   slots(class.Array, ref(free+1), ref(free+2)),
			free + 4:   text(class.Symbol, "A"),
			free + 5:   slots(free),
		})
		if got := came(t, v, "A foo: 1 with: 2"); got != want {
			t.Errorf("%q: %s, want %s", source, got, want)
		}
	}
}

// P15.2: a method without a Return answers its object; the kernel's methods do what they say.
func TestKernelMethods(t *testing.T) {
	wants(t, world(t, nil),
		"Object compile: 'quiet 3 + 4'. 7 quiet", "7",
		"Object compile: 'silent'. 7 silent", "7",
		"3 isNil", "false", "nil isNil", "true",
		"3 yourself", "3", "nil ifNil: [4]", "4", "3 ifNil: [4]", "3",
		"3 ~= 3", "false", "3 ~= 4", "true", "'a' ~= 'a'", "false", "nil ~= 3", "true",
		"true not", "false", "false not", "true",
		"true and: [3]", "3", "false and: [3]", "false", "true or: [3]", "true", "false or: [3]", "3",
		"true ifTrue: [3]", "3", "false ifTrue: [3]", "nil", "true ifFalse: [3]", "nil", "false ifFalse: [3]", "3",
		"true ifTrue: [3] ifFalse: [4]", "3", "false ifTrue: [3] ifFalse: [4]", "4",
		"nil ifTrue: [3]", "! does not understand ifTrue:",
		"true ifTrue: 3", "! does not understand value",
		"5 negated", "-5", "5 negated abs", "5", "5 abs", "5",
		"3 > 4", "false", "4 > 3", "true", "3 > 3", "false",
		"3 <= 4", "true", "3 <= 3", "true", "4 <= 3", "false",
		"3 >= 4", "false", "3 >= 3", "true", "4 >= 3", "true",
		"3 max: 4", "4", "4 max: 3", "4",
		"0 factorial", "1", "5 factorial", "120", "20 factorial", "large 2432902008176640000",
		"25 factorial asString", `"15511210043330985984000000"`,
		"26 factorial", "large 403291461126605635584000000", "27 factorial", "! too deep",
		"#(1 2 3) collect: [:x | x * x]", "Array(1 4 9)",
		"#(1 2 3) inject: 10 into: [:a :b | a + b]", "16",
		"| n | n := 0. #(1 2 3) do: [:x | n := n * 10 + x]. n", "123",
		"#(1 2 3) do: [:x | x]", "Array(1 2 3)",
		"Root at: #a ifAbsent: [7]", "7", "Root at: #a put: 3. Root at: #a ifAbsent: [7]", "3",
	)
}

// P15.5: loops do what they say.
func TestLoops(t *testing.T) {
	wants(t, world(t, nil),
		"| n | n := 0. 1 to: 5 do: [:i | n := n + i]. n", "15",
		"| n | n := 0. 5 to: 1 do: [:i | n := n + i]. n", "0",
		"| n | n := 0. 3 to: 3 do: [:i | n := n + i]. n", "3",
		"1 to: 5 do: [:i | i]", "1",
		"| n | n := 0. 7 timesRepeat: [n := n + 1]. n", "7",
		"| n | n := 0. 0 timesRepeat: [n := n + 1]. n", "0",
		"| n | n := 0. 3 negated timesRepeat: [n := n + 1]. n", "0",
		"| n | n := 0. [n < 10] whileTrue: [n := n + 3]. n", "12",
		"| n | n := 0. [n < 10] whileTrue: [n := n + 3]", "nil",
		"| n | n := 0. [n := n + 1. n < 10] whileTrue: []. n", "10",
		"| n m | n := 0. m := 0. [n < 3] whileTrue: [| k | k := 0. [k < 4] whileTrue: [k := k + 1. m := m + 1]. n := n + 1]. m", "12",
		"1 to: 9 do: [:i | i = 4 ifTrue: [^i * 10]]. 5", "40",
		"| n | n := 0. 1152921504606846970 to: 1152921504606846980 do: [:i | n := n + 1]. n", "11",
		"| n | n := 0. 300 timesRepeat: [n := n + 1]. n", "300",
	)
}
