package class_test

import (
	"slices"
	"testing"

	"lapidary/api"
	"lapidary/class"
	"lapidary/view"
)

// tower is a world with n classes, each below the one ahead of it, from free on; the first one below Nil.
func tower(t *testing.T, n int64) *view.View {
	t.Helper()
	more := map[int64]api.Obj{free: below(0, noNames, noMethods)}
	for i := range n - 1 {
		more[free+1+i] = below(free+i, noNames, noMethods)
	}
	return world(t, more)
}

// down are n oops, falling from the one on.
func down(from int64, n int) []int64 {
	var out []int64
	for i := range int64(n) {
		out = append(out, from-i)
	}
	return out
}

func chain(t *testing.T, v *view.View, c int64, want ...int64) {
	t.Helper()
	if got := class.Chain(v, c); !slices.Equal(got, want) {
		t.Errorf("Chain(%d) = %v, want %v", c, got, want)
	}
}

// P13.2: a class and those above it, at most 30, of which each is read.
func TestChain(t *testing.T) {
	v := world(t, nil)
	chain(t, v, 1, 1)
	read(t, v, 1)
	chain(t, v, 9, 9, 1)
	read(t, v, 1, 9)
	for n := int64(1); n <= 40; n++ {
		v := tower(t, n)
		seen := down(free+n-1, int(min(n, 30)))
		chain(t, v, free+n-1, seen...)
		slices.Sort(seen)
		read(t, v, seen...)
	}
}

// P13.2: classes that are above themselves.
func TestChainRound(t *testing.T) {
	v := world(t, map[int64]api.Obj{
		free:     below(free, noNames, noMethods),
		free + 1: below(free+2, noNames, noMethods),
		free + 2: below(free+1, noNames, noMethods),
		free + 3: below(free, noNames, noMethods),
	})
	chain(t, v, free, slices.Repeat([]int64{free}, 30)...)
	chain(t, v, free+1, slices.Repeat([]int64{free + 1, free + 2}, 15)...)
	chain(t, v, free+3, append([]int64{free + 3}, slices.Repeat([]int64{free}, 29)...)...)
	read(t, v, free, free+1, free+2, free+3)
}

// P13.2: it ends ahead of what is no class, which is read.
func TestChainEnds(t *testing.T) {
	v := world(t, map[int64]api.Obj{
		free:     below(noNames, noNames, noMethods),
		free + 1: below(free, noNames, noMethods),
		free + 2: below(3000, noNames, noMethods),
	})
	chain(t, v, free+1, free+1, free)
	read(t, v, noNames, free, free+1)
	chain(t, v, free+2, free+2)
	chain(t, v, noNames)
	read(t, v, noNames, free, free+1, free+2, 3000)
	for _, oop := range oddOops {
		chain(t, v, oop)
		chain(t, nil, oop)
		chain(t, new(view.View), oop)
	}
}

func names(t *testing.T, v *view.View, c int64, want ...string) {
	t.Helper()
	if got := class.Names(v, c); !slices.Equal(got, want) {
		t.Errorf("Names(%d) = %q, want %q", c, got, want)
	}
}

// P13.2: the names of those above come first; of each one its bytes between blanks, of no object none.
func TestNames(t *testing.T) {
	cases := []struct {
		bytes string
		want  []string
	}{
		{"", nil},
		{"x", []string{"x"}},
		{"x y", []string{"x", "y"}},
		{"x  y   z", []string{"x", "y", "z"}},
		{" x ", []string{"x"}},
		{"   ", nil},
		{"y x", []string{"y", "x"}},
		{"x x", []string{"x", "x"}},
		{"self 3 X", []string{"self", "3", "X"}},
		{"\xff\xfe \xc3\x28", []string{"\xff\xfe", "\xc3\x28"}},
	}
	for _, c := range cases {
		v := world(t, map[int64]api.Obj{
			free:     below(1, free+1, noMethods),
			free + 1: text(class.String, c.bytes),
			free + 2: below(free, free+3, noMethods),
			free + 3: text(class.Symbol, "own"), // it need be no String
		})
		names(t, v, free, c.want...)
		read(t, v, 1, noNames, free, free+1)
		names(t, v, free+2, append(slices.Clone(c.want), "own")...)
		read(t, v, 1, noNames, free, free+1, free+2, free+3)
	}
}

// P13.2: names where something is not there, or no class; of a chain that is cut, and of one that comes back.
func TestNamesOfOthers(t *testing.T) {
	v := world(t, map[int64]api.Obj{
		free:     below(3000, free+1, noMethods),
		free + 1: text(class.String, "a b"),
		free + 2: below(free, 3001, noMethods),
		free + 3: below(free+2, free+1, 3002),
		free + 4: below(free+4, free+1, noMethods),
	})
	names(t, v, free, "a", "b")
	names(t, v, free+2, "a", "b")
	names(t, v, free+3, "a", "b", "a", "b")
	read(t, v, free, free+1, free+2, free+3, 3000, 3001)
	names(t, v, free+4, slices.Repeat([]string{"a", "b"}, 30)...)
	for _, oop := range append([]int64{noNames}, oddOops...) {
		names(t, v, oop)
		names(t, nil, oop)
	}
	v = tower(t, 31)
	lay(t, v, free, 1, text(class.String, "hidden")) // it is the one above the 30
	lay(t, v, free+1, 1, text(class.String, "seen"))
	names(t, v, free+30, "seen")
}

func put(t *testing.T, v *view.View, oop int64, o api.Obj) {
	t.Helper()
	if err := v.Put(oop, o); err != api.OK {
		t.Fatal("Put", oop, err)
	}
}

// lay makes a new object, and lets a slot of another one name it.
func lay(t *testing.T, v *view.View, oop int64, slot int, o api.Obj) {
	t.Helper()
	whole, err := v.Peek(oop)
	if err != api.OK {
		t.Fatal("Peek", oop, err)
	}
	whole.Slots[slot] = ref(made(t, v, o))
	put(t, v, oop, whole)
}

func find(t *testing.T, v *view.View, c int64, selector, source string, who int64) {
	t.Helper()
	s, w, found := class.Find(v, c, selector)
	if s != source || w != who || found != (who != 0) {
		t.Errorf("Find(%d, %q) = %q %d %v, want %q %d", c, selector, s, w, found, source, who)
	}
}

// P13.2: what is found is the first one of the chain; the methods' objects up to it are read, the Symbols up to it, and its String.
func TestFind(t *testing.T) {
	world := func() *view.View {
		return world(t, map[int64]api.Obj{
			methodsOf + 1: slots(class.Array, ref(110), ref(111), ref(112), ref(113)),
			110:           text(class.Symbol, "foo"), 111: text(class.String, "foo ^1"),
			112: text(class.Symbol, "bar"), 113: text(class.String, "bar ^2"),
			free:     below(1, noNames, free+1),
			free + 1: slots(class.Array, ref(114), ref(115), ref(116), ref(117), ref(118), ref(119)),
			114:      text(class.Symbol, "at:put:"), 115: text(class.String, "at: a put: b"),
			116: text(class.Symbol, "bar"), 117: text(class.String, "bar ^3"),
			118: text(class.Symbol, "bar"), 119: text(class.String, "bar ^4"),
		})
	}
	cases := []struct {
		selector, source string
		who              int64
		reads            []int64
	}{
		{"at:put:", "at: a put: b", free, []int64{1, free, free + 1, 114, 115}},
		{"bar", "bar ^3", free, []int64{1, free, free + 1, 114, 116, 117}},
		{"foo", "foo ^1", 1, []int64{1, 21, free, free + 1, 110, 111, 114, 116, 118}},
		{"none", "", 0, []int64{1, 21, free, free + 1, 110, 112, 114, 116, 118}},
		{"", "", 0, []int64{1, 21, free, free + 1, 110, 112, 114, 116, 118}},
		{"fo", "", 0, []int64{1, 21, free, free + 1, 110, 112, 114, 116, 118}},
		{"at:", "", 0, []int64{1, 21, free, free + 1, 110, 112, 114, 116, 118}},
	}
	for _, c := range cases {
		v := world()
		find(t, v, free, c.selector, c.source, c.who)
		read(t, v, c.reads...)
	}
	v := world()
	find(t, v, 1, "bar", "bar ^2", 1)
	read(t, v, 1, 21, 110, 112, 113)
}

// P13.2: places that are none: what is no Symbol, a Symbol whose next slot is no String or not there, one that stands at an odd place.
func TestFindPlaces(t *testing.T) {
	const symbol, source, other = 110, 111, 112 // foo, its source, an object that is neither
	cases := []struct {
		slots []api.Val
		found bool
		reads []int64
	}{
		{[]api.Val{ref(symbol), ref(source)}, true, []int64{symbol, source}},
		{nil, false, nil},
		{[]api.Val{ref(symbol)}, false, []int64{symbol}},
		{[]api.Val{number(1), number(2), ref(symbol)}, false, []int64{symbol}},
		{[]api.Val{ref(symbol), ref(source), ref(other)}, true, []int64{symbol, source}},
		{[]api.Val{ref(other), ref(symbol), ref(source)}, false, []int64{source, other}},
		{[]api.Val{ref(other), ref(source)}, false, []int64{other}},
		{[]api.Val{ref(source), ref(source)}, false, []int64{source}},
		{[]api.Val{ref(symbol), ref(symbol)}, false, []int64{symbol}},
		{[]api.Val{ref(symbol), ref(3000)}, false, []int64{symbol, 3000}},
		{[]api.Val{ref(3000), ref(source)}, false, []int64{3000}},
		{[]api.Val{ref(symbol), {}}, false, []int64{symbol}},
		{[]api.Val{ref(symbol), number(source)}, false, []int64{symbol}},
		{[]api.Val{number(symbol), ref(source)}, false, nil},
		{[]api.Val{{}, {}, ref(symbol), ref(other), ref(symbol), ref(source)}, true, []int64{symbol, source, other}},
	}
	for i, c := range cases {
		v := world(t, map[int64]api.Obj{
			free:     below(0, noNames, free+1),
			free + 1: slots(class.Array, c.slots...),
			symbol:   text(class.Symbol, "foo"), source: text(class.String, "foo ^1"), other: text(1, "foo"),
		})
		if c.found {
			find(t, v, free, "foo", "foo ^1", free)
		} else {
			find(t, v, free, "foo", "", 0)
		}
		read(t, v, append([]int64{free, free + 1}, c.reads...)...)
		if t.Failed() {
			t.Fatal("the case", i)
		}
	}
}

// P13.2: methods that are not there, or of another class; classes that are none.
func TestFindElsewhere(t *testing.T) {
	v := world(t, map[int64]api.Obj{
		free:     below(free+1, noNames, 3000),
		free + 1: below(0, noNames, free+2),
		free + 2: slots(class.Dictionary, ref(free+3), ref(free+4)),
		free + 3: text(class.Symbol, ""),
		free + 4: text(class.String, ""),
	})
	find(t, v, free, "", "", free+1)
	read(t, v, free, free+1, free+2, free+3, free+4, 3000)
	for _, oop := range append([]int64{noNames}, oddOops...) {
		find(t, v, oop, "", "", 0)
		find(t, nil, oop, "", "", 0)
		find(t, new(view.View), oop, "", "", 0)
	}
}
