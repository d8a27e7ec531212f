package run_test

import (
	"math/rand"
	"slices"
	"strings"
	"testing"

	"lapidary/api"
	"lapidary/class"
	"lapidary/code"
	"lapidary/kernel"
	"lapidary/run"
)

// P15.1, P7: any text is told where it is no source, as code.Compile tells it, or runs; no call panics.
func TestAnySource(t *testing.T) {
	words := []string{"a", "Root", "self", "super", "nil", "3", "'x'", "#s", "#(", "(", ")", "[", "]", "|", "^", ".", ";", ":", ":=", ":a", "+", "foo", "at:", "put:", "value", "ensure:", "onError:", "whileTrue:", "\"", "'", "\x00", "\xff", "| a |"}
	random := rand.New(rand.NewSource(5))
	base := world(t, nil)
	ran := 0
	for range 20000 {
		var source strings.Builder
		for range random.Intn(8) {
			source.WriteString(words[random.Intn(len(words))])
			source.WriteString(" ")
		}
		v := base.Copy()
		r, at, err := run.Start(v, source.String())
		if _, wantAt, want := code.Compile(source.String(), nil); at != wantAt || err != want || (r == nil) == (err == api.OK) {
			t.Fatalf("Start(%q) = %d %v, want %d %v", source.String(), at, err, wantAt, want)
		}
		if err == api.OK {
			ran++
			r.Go(random.Intn(50) - 1)
			r.Go(200)
		}
	}
	if ran < 1000 {
		t.Error("only", ran, "ran")
	}
}

// oddThings are objects of any class, with slots and bytes of any kind.
func oddThings(random *rand.Rand) []api.Obj {
	var out []api.Obj
	for range 8 {
		o := api.Obj{Class: 1 + random.Int63n(15)}
		if random.Intn(8) == 0 {
			o.Class = []int64{free, thingsAt, missing}[random.Intn(3)]
		}
		for range random.Intn(4) {
			x := api.Val{K: random.Intn(5)}
			switch x.K {
			case api.Int:
				x.N = []int64{0, 1, -1, 7, api.Small - 1, -api.Small}[random.Intn(6)]
			case api.Ref:
				x.N = []int64{1, 2, 8, 10, 15, 16, 21, 41, 42, thingsAt, thingsAt + 3, thingsAt + 5, missing}[random.Intn(13)]
			}
			o.Slots = append(o.Slots, x)
		}
		o.Bytes = []byte([]string{"", "a", "foo", "foo ^3", "x y", "\x00\x05", "\x01\xff\xff\xff\xff\xff\xff\xff\xff\xff", "\x02" + strings.Repeat("\x7f", 16), "Zork"}[random.Intn(9)])
		out = append(out, o)
	}
	return out
}

// P15.2, P15.3, P7: messages to objects of any kind end, and the same comes of them in any parts; ops are of objects of the commit that were written.
func TestAnyObjects(t *testing.T) {
	var selectors []string
	for c := int64(1); c <= class.Bag; c++ {
		selectors = append(selectors, kernel.Natives(c)...)
	}
	selectors = append(selectors, "foo", "isNil", "do:", "collect:", "at:ifAbsent:", "~=", "abs", "max:", "ifTrue:ifFalse:")
	random := rand.New(rand.NewSource(6))
	value := func() string {
		return []string{"A", "B", "C", "D", "E", "F", "G", "H", "A", "B", "C", "D", "nil", "true", "3", "1", "'a'", "#a", "#A", "[3]", "[:x | x]", "Array", "Root", "(0 - 1)"}[random.Intn(24)]
	}
	for range 3000 {
		things := oddThings(random)
		var parts []string
		for range 1 + random.Intn(5) {
			s := selectors[random.Intn(len(selectors))]
			m := message(s, "@")
			for strings.Contains(m, "@") {
				m = strings.Replace(m, "@", value(), 1)
			}
			s = "(" + value() + " " + m + ")"
			if random.Intn(2) == 0 {
				s = "[" + s + "] onError: [:e | e]"
			}
			parts = append(parts, s)
		}
		source := strings.Join(parts, ". ")
		v, w := rooted(t, things...), rooted(t, things...)
		a, b := start(t, v, source), start(t, w, source)
		for range 300 { // some go on for ever
			a.Go(1)
		}
		b.Go(300)
		if result(v, a) != result(w, b) || a.Over() != b.Over() || a.Steps() != b.Steps() || !slices.Equal(a.Ops(), b.Ops()) {
			t.Fatalf("%q: %s in %d steps, at once %s in %d", source, result(v, a), a.Steps(), result(w, b), b.Steps())
		}
		sameView(t, v, w)
		for _, op := range b.Ops() {
			if o := peek(t, w, op.Oop); !has(w.Writes(), op.Oop) || o.Class != class.Counter && o.Class != class.Bag {
				t.Fatalf("%q: the op %v on %v", source, op, o)
			}
		}
	}
}
