package kernel_test

import (
	"math"
	"slices"
	"strings"
	"testing"

	"lapidary/api"
	"lapidary/code"
	"lapidary/kernel"
	"lapidary/value"
)

// given is what the chapter says of a class.
type given struct {
	name    string
	natives []string
	sources []string
}

// classes are the chapter's tables, by their oops from 1 on.
func classes() []given {
	return []given{
		{"Object", []string{"==", "class", "error:"}, []string{
			"isNil ^false",
			"yourself ^self",
			"= x ^self == x",
			"~= x ^(self = x) not",
			"ifNil: b ^self",
		}},
		{"Class", []string{"new", "new:", "name", "superclass", "subclass:slots:", "compile:"}, nil},
		{"UndefinedObject", nil, []string{
			"isNil ^true",
			"ifNil: b ^b value",
		}},
		{"False", nil, []string{
			"not ^true",
			"and: b ^false",
			"or: b ^b value",
			"ifTrue: a ^nil",
			"ifFalse: b ^b value",
			"ifTrue: a ifFalse: b ^b value",
		}},
		{"True", nil, []string{
			"not ^false",
			"and: b ^b value",
			"or: b ^true",
			"ifTrue: a ^a value",
			"ifFalse: b ^nil",
			"ifTrue: a ifFalse: b ^a value",
		}},
		{"Integer", []string{"+", "-", "*", "/", "//", "\\\\", "<", "=", "im:", "asString"}, []string{
			"negated ^0 - self",
			"> x ^x < self",
			"<= x ^(x < self) not",
			">= x ^(self < x) not",
			"abs ^self < 0 ifTrue: [0 - self] ifFalse: [self]",
			"max: x ^self < x ifTrue: [x] ifFalse: [self]",
			"timesRepeat: b | i | i := 0. [i < self] whileTrue: [b value. i := i + 1]",
			"to: n do: b | i | i := self. [i <= n] whileTrue: [b value: i. i := i + 1]",
			"factorial ^self < 2 ifTrue: [1] ifFalse: [self * (self - 1) factorial]",
		}},
		{"Complex", []string{"+", "-", "*", "/", "=", "re", "im"}, nil},
		{"String", []string{"size", "at:", "at:put:", ",", "=", "asSymbol"}, nil},
		{"Symbol", []string{"size", "=", "asString"}, nil},
		{"Array", []string{"size", "at:", "at:put:"}, []string{
			"do: b 1 to: self size do: [:i | b value: (self at: i)]",
			"inject: x into: b | r | r := x. self do: [:e | r := b value: r value: e]. ^r",
			"collect: b | r | r := Array new: self size. 1 to: self size do: [:i | r at: i put: (b value: (self at: i))]. ^r",
		}},
		{"Block", []string{"value", "value:", "value:value:", "numArgs", "whileTrue:", "ensure:", "onError:"}, nil},
		{"Dictionary", []string{"at:", "at:put:", "removeKey:", "includesKey:", "size"}, []string{
			"at: k ifAbsent: b ^(self includesKey: k) ifTrue: [self at: k] ifFalse: [b value]",
		}},
		{"RcCounter", []string{"value", "increment:", "decrement:"}, nil},
		{"RcBag", []string{"add:", "remove:", "count:", "size"}, nil},
	}
}

// P14.1: each class's name, the class above it, its natives and its sources, in their order.
func TestClasses(t *testing.T) {
	for i, g := range classes() {
		c := int64(i) + 1
		if got := kernel.Name(c); got != g.name {
			t.Errorf("Name(%d) = %q, want %q", c, got, g.name)
		}
		if got := kernel.Oop(g.name); got != c {
			t.Errorf("Oop(%q) = %d, want %d", g.name, got, c)
		}
		if got := kernel.Super(c); got != min(c-1, 1) {
			t.Errorf("Super(%d) = %d", c, got)
		}
		if got := kernel.Natives(c); !slices.Equal(got, g.natives) {
			t.Errorf("Natives(%d) = %q, want %q", c, got, g.natives)
		}
		if got := kernel.Sources(c); !slices.Equal(got, g.sources) {
			t.Errorf("Sources(%d) = %q, want %q", c, got, g.sources)
		}
	}
}

// P14.1: oops and texts that are no class.
func TestNoClasses(t *testing.T) {
	for _, c := range []int64{math.MinInt64, -1, 0, 15, 16, 21, 41, 4096, math.MaxInt64, 1<<32 + 1, 1 << 62} {
		if kernel.Name(c) != "" || kernel.Super(c) != 0 || kernel.Sources(c) != nil || kernel.Natives(c) != nil {
			t.Error("what is told of", c)
		}
	}
	for _, name := range []string{"", "object", "Object ", " Object", "Root", "Nil", "Counter", "Bag", "RcBag\n", "Obj", "    isNil ^false", "\xff", strings.Repeat("A", 5000)} {
		if got := kernel.Oop(name); got != 0 {
			t.Errorf("Oop(%q) = %d", name, got)
		}
	}
}

// P14.1: what is written into an answer is seen by no later one.
func TestAnswersAreNew(t *testing.T) {
	for range 2 {
		natives, sources := kernel.Natives(1), kernel.Sources(1)
		if natives[0] != "==" || sources[0] != "isNil ^false" {
			t.Error("what was written was told", natives, sources)
		}
		natives[0], sources[0] = "", ""
		_, _ = append(natives[:1], "x"), append(sources[:1], "x")
	}
	for range 2 {
		r, err := kernel.Build()
		if err != api.OK || !value.Same(r.Changes[0].Obj, first()[0].Obj) {
			t.Fatal("what was written was told", r.Changes[0], err)
		}
		r.Changes[0].Obj.Slots[1] = api.Val{}
		r.Changes[0].Obj.Bytes[0] = 'x'
	}
	r, _ := kernel.Build()
	for i := range r.Changes {
		for j := range r.Changes[i].Obj.Slots {
			r.Changes[i].Obj.Slots[j] = api.Val{K: api.Int, N: int64(i)}
		}
	}
	for i, c := range r.Changes {
		for _, x := range c.Obj.Slots {
			if x.N != int64(i) {
				t.Fatal("two objects share their slots", c.Oop)
			}
		}
	}
}

func ref(oop int64) api.Val { return api.Val{K: api.Ref, N: oop} }

// first is the first commit's changes, made of the chapter's tables.
func first() []value.Change {
	var all, texts []value.Change
	var methods []value.Change
	for i, g := range classes() {
		c := int64(i) + 1
		var above api.Val
		if c > 1 {
			above = ref(1)
		}
		all = append(all, value.Change{Oop: c, Obj: api.Obj{
			Class: 2,
			Slots: []api.Val{above, ref(16), ref(20 + c)},
			Bytes: []byte(g.name),
		}})
		m := api.Obj{Class: 10}
		for _, source := range g.sources {
			at := 41 + int64(len(texts))
			texts = append(texts,
				value.Change{Oop: at, Obj: api.Obj{Class: 9, Bytes: []byte(selector(source))}},
				value.Change{Oop: at + 1, Obj: api.Obj{Class: 8, Bytes: []byte(source)}})
			m.Slots = append(m.Slots, ref(at), ref(at+1))
		}
		methods = append(methods, value.Change{Oop: 20 + c, Obj: m})
	}
	all = append(all, value.Change{Oop: 15, Obj: api.Obj{Class: 12}}, value.Change{Oop: 16, Obj: api.Obj{Class: 8}})
	return slices.Concat(all, methods, texts)
}

// selector is that of a source: its words up to the first that begins what is done, of keys those alone.
func selector(source string) string {
	list := strings.Fields(source)
	if !strings.HasSuffix(list[0], ":") {
		return list[0]
	}
	out := ""
	for i := 0; strings.HasSuffix(list[i], ":"); i += 2 {
		out += list[i]
	}
	return out
}

// P14.2: the first commit, all of it.
func TestBuild(t *testing.T) {
	r, err := kernel.Build()
	if err != api.OK || r.Commit != 1 {
		t.Fatal("Build", r.Commit, err)
	}
	want := first()
	if len(r.Changes) != len(want) {
		t.Fatalf("%d changes, want %d", len(r.Changes), len(want))
	}
	for i, c := range r.Changes {
		if c.Oop != want[i].Oop || c.Gone || !value.Same(c.Obj, want[i].Obj) {
			t.Errorf("the change %d is %v, want %v", i, c, want[i])
		}
	}
}

// P14.2: some objects, written out.
func TestBuildSome(t *testing.T) {
	r, _ := kernel.Build()
	all := map[int64]api.Obj{}
	for _, c := range r.Changes {
		all[c.Oop] = c.Obj
	}
	for oop, want := range map[int64]api.Obj{
		1:   {Class: 2, Slots: []api.Val{{}, ref(16), ref(21)}, Bytes: []byte("Object")},
		14:  {Class: 2, Slots: []api.Val{ref(1), ref(16), ref(34)}, Bytes: []byte("RcBag")},
		15:  {Class: 12},
		16:  {Class: 8},
		23:  {Class: 10, Slots: []api.Val{ref(51), ref(52), ref(53), ref(54)}},
		34:  {Class: 10},
		41:  {Class: 9, Bytes: []byte("isNil")},
		42:  {Class: 8, Bytes: []byte("isNil ^false")},
		47:  {Class: 9, Bytes: []byte("~=")},
		65:  {Class: 9, Bytes: []byte("ifTrue:ifFalse:")},
		103: {Class: 9, Bytes: []byte("at:ifAbsent:")},
		104: {Class: 8, Bytes: []byte("at: k ifAbsent: b ^(self includesKey: k) ifTrue: [self at: k] ifFalse: [b value]")},
	} {
		if o, there := all[oop]; !there || !value.Same(o, want) {
			t.Errorf("the object %d is %v, want %v", oop, o, want)
		}
	}
	if len(all) != 94 {
		t.Error("objects in all:", len(all))
	}
}

// P14.3: all sources are methods of an object without slots, and no two of a class have the same selector; natives are selectors too.
func TestSources(t *testing.T) {
	for c := int64(1); c <= 14; c++ {
		var seen []string
		for _, s := range kernel.Sources(c) {
			steps, at, err := code.Method(s, nil)
			if err != api.OK || code.Check(steps, 0) != api.OK {
				t.Errorf("%q is no method: %v at %d", s, err, at)
			}
			if slices.Contains(seen, steps.Sel) {
				t.Errorf("%q stands twice in %s", steps.Sel, kernel.Name(c))
			}
			seen = append(seen, steps.Sel)
		}
		for _, s := range kernel.Natives(c) {
			if _, _, err := code.Compile("nil "+sent(s), nil); err != api.OK {
				t.Errorf("%q is no selector", s)
			}
		}
	}
}

// sent is a selector as a message.
func sent(selector string) string {
	if strings.Contains(selector, ":") {
		return strings.ReplaceAll(selector, ":", ": 1 ")
	}
	if strings.ContainsAny(selector, "+-*/\\<=,") {
		return selector + " 1"
	}
	return selector
}

// P14.4: the first commit can be, is written and read as it was, and names no object that it does not make.
func TestFirstCommitCanBe(t *testing.T) {
	r, _ := kernel.Build()
	if !value.RightRecord(r) {
		t.Error("it can not be")
	}
	b, err := value.PutRecord(r)
	if err != api.OK {
		t.Fatal("PutRecord", err)
	}
	if again, err := value.GetRecord(b); err != api.OK || len(again.Changes) != len(r.Changes) {
		t.Error("GetRecord", err)
	}
	there := map[int64]int{}
	for _, c := range r.Changes {
		there[c.Oop]++
	}
	for _, c := range r.Changes {
		for _, oop := range value.Refs(c.Obj) {
			if there[oop] != 1 {
				t.Errorf("the object %d names %d, which is not made", c.Oop, oop)
			}
		}
	}
}
