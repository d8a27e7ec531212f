package class_test

import (
	"math"
	"slices"
	"testing"

	"lapidary/api"
	"lapidary/class"
	"lapidary/table"
	"lapidary/value"
	"lapidary/view"
)

// What stands where in a world: no names, no methods; a class's own methods; what a test lays there itself.
const (
	noNames   = 16
	noMethods = 17
	methodsOf = 20 // and the class's oop
	free      = 100
)

func ref(oop int64) api.Val { return api.Val{K: api.Ref, N: oop} }

func number(n int64) api.Val { return api.Val{K: api.Int, N: n} }

func text(c int64, s string) api.Obj { return api.Obj{Class: c, Bytes: []byte(s)} }

func slots(c int64, list ...api.Val) api.Obj { return api.Obj{Class: c, Slots: list} }

// below is a class below another one, 0: below none.
func below(super, names, methods int64) api.Obj {
	var above api.Val
	if super != 0 {
		above = ref(super)
	}
	return slots(class.Class, above, ref(names), ref(methods))
}

// world is a view of the classes from 1 to 14, the root, and more objects, in place of them too.
func world(t *testing.T, more map[int64]api.Obj) *view.View {
	t.Helper()
	all := map[int64]api.Obj{
		class.Root: {Class: class.Dictionary},
		noNames:    {Class: class.String},
		noMethods:  {Class: class.Array},
	}
	for c := int64(1); c <= class.Bag; c++ {
		all[c] = below(min(c-1, 1), noNames, methodsOf+c)
		all[methodsOf+c] = api.Obj{Class: class.Array}
	}
	for oop, o := range more {
		all[oop] = o
	}
	r := value.Record{Commit: 1}
	for oop := range int64(api.MaxOops + 1) {
		if o, there := all[oop]; there {
			r.Changes = append(r.Changes, value.Change{Oop: oop, Obj: o})
		}
	}
	x := table.New()
	if err := x.Apply(r); err != api.OK {
		t.Fatal("Apply", err)
	}
	return view.New(x)
}

// fill makes new objects, till only so many more can be made.
func fill(t *testing.T, v *view.View, left int) {
	t.Helper()
	for range api.MaxOops - len(v.News()) - left {
		if _, err := v.Make(api.Obj{Class: 1}); err != api.OK {
			t.Fatal("Make", err)
		}
	}
}

// read asks for what was read, and that nothing was written or made.
func read(t *testing.T, v *view.View, want ...int64) {
	t.Helper()
	if got := v.Reads(); !slices.Equal(got, want) {
		t.Errorf("%v were read, want %v", got, want)
	}
	if len(v.Writes())+len(v.News()) != 0 {
		t.Error("what only asks has changed the view:", v.Writes(), v.News())
	}
}

// made makes a new object of a view.
func made(t *testing.T, v *view.View, o api.Obj) int64 {
	t.Helper()
	oop, err := v.Make(o)
	if err != api.OK {
		t.Fatal("Make", err)
	}
	return oop
}

// oddOops are the oops of nothing.
var oddOops = []int64{math.MinInt64, -1, 0, 3000, api.MaxOops, api.MaxOops + 1, 2 * api.MaxOops, 2*api.MaxOops + 1, math.MaxInt64}

// P13.1: the class of each kind of value, whatever its N; what is asked is read, if it is an object.
func TestOf(t *testing.T) {
	kinds := []struct {
		k    int
		want int64
	}{
		{api.Nil, 3}, {api.False, 4}, {api.True, 5}, {api.Int, 6}, {api.Block, 11},
		{-1, 0}, {6, 0}, {math.MaxInt, 0}, {math.MinInt, 0},
	}
	v := world(t, map[int64]api.Obj{free: text(class.Symbol, "a"), free + 1: slots(free, number(1))})
	for _, k := range kinds {
		for _, n := range []int64{0, 1, 15, -7, free} {
			for _, v := range []*view.View{v, nil, {}} {
				if got := class.Of(v, api.Val{K: k.k, N: n}); got != k.want {
					t.Errorf("Of the kind %d, N %d: %d, want %d", k.k, n, got, k.want)
				}
			}
		}
	}
	read(t, v)
	for oop, want := range map[int64]int64{1: 2, 14: 2, class.Root: 12, noNames: 8, free: 9, free + 1: free, free + 2: 0} {
		if got := class.Of(v, ref(oop)); got != want {
			t.Errorf("Of the object %d: %d, want %d", oop, got, want)
		}
	}
	read(t, v, 1, 14, class.Root, noNames, free, free+1, free+2)
	if oop := made(t, v, text(class.String, "a")); class.Of(v, ref(oop)) != class.String {
		t.Error("Of a new object")
	}
	for _, oop := range oddOops {
		if class.Of(world(t, nil), ref(oop)) != 0 || class.Of(nil, ref(oop)) != 0 || class.Of(new(view.View), ref(oop)) != 0 {
			t.Error("Of no object", oop)
		}
	}
}

// P13.1: what is a class: three slots of the right kinds, whatever they name; it alone is read.
func TestIs(t *testing.T) {
	yes, no := number(1), api.Val{K: api.True}
	cases := []struct {
		o    api.Obj
		want bool
	}{
		{slots(2, ref(1), ref(noNames), ref(noMethods)), true},
		{slots(2, api.Val{}, ref(noNames), ref(noMethods)), true},
		{slots(2, ref(free), ref(3001), ref(3002)), true},
		{api.Obj{Class: 2, Slots: []api.Val{ref(1), ref(1), ref(1)}, Bytes: []byte("any")}, true},
		{slots(1, ref(1), ref(noNames), ref(noMethods)), false},
		{slots(free, ref(1), ref(noNames), ref(noMethods)), false},
		{slots(2), false},
		{slots(2, ref(1), ref(noNames)), false},
		{slots(2, ref(1), ref(noNames), ref(noMethods), ref(1)), false},
		{slots(2, ref(1), ref(noNames), ref(noMethods), api.Val{}), false},
		{slots(2, yes, ref(noNames), ref(noMethods)), false},
		{slots(2, no, ref(noNames), ref(noMethods)), false},
		{slots(2, api.Val{K: api.False}, ref(noNames), ref(noMethods)), false},
		{slots(2, ref(1), api.Val{}, ref(noMethods)), false},
		{slots(2, ref(1), yes, ref(noMethods)), false},
		{slots(2, ref(1), ref(noNames), api.Val{}), false},
		{slots(2, ref(1), ref(noNames), no), false},
	}
	for i, c := range cases {
		v := world(t, map[int64]api.Obj{free: c.o})
		if got := class.Is(v, free); got != c.want {
			t.Errorf("%d: Is of %v: %v", i, c.o, got)
		}
		read(t, v, free)
		if oop := made(t, v, c.o); class.Is(v, oop) != c.want {
			t.Errorf("%d: Is of a new one", i)
		}
	}
	v := world(t, nil)
	for _, oop := range append([]int64{class.Root, noNames, noMethods}, oddOops...) {
		if class.Is(v, oop) || class.Is(nil, oop) || class.Is(new(view.View), oop) {
			t.Error("Is of no class", oop)
		}
	}
	read(t, v, class.Root, noNames, noMethods, 3000, api.MaxOops)
}

// P13.1: a text of a class, and what is none.
func TestText(t *testing.T) {
	bytes := "a\x00'\xff"
	v := world(t, map[int64]api.Obj{
		free:     text(class.String, bytes),
		free + 1: text(class.Symbol, "a"),
		free + 2: text(class.String, ""),
		free + 3: {Class: free, Slots: []api.Val{number(1)}, Bytes: []byte("own")},
	})
	cases := []struct {
		x    api.Val
		c    int64
		want string
		is   bool
	}{
		{ref(free), class.String, bytes, true},
		{ref(free), class.Symbol, "", false},
		{ref(free), class.Object, "", false},
		{ref(free), 0, "", false},
		{ref(free + 1), class.Symbol, "a", true},
		{ref(free + 1), class.String, "", false},
		{ref(free + 2), class.String, "", true},
		{ref(free + 3), free, "own", true},
		{ref(free + 4), class.String, "", false},
		{ref(free + 4), 0, "", false},
	}
	for _, c := range cases {
		w := v.Copy()
		if got, is := class.Text(w, c.x, c.c); got != c.want || is != c.is {
			t.Errorf("Text(%v, %d) = %q %v, want %q %v", c.x, c.c, got, is, c.want, c.is)
		}
		read(t, w, c.x.N)
	}
	for _, k := range []int{api.Nil, api.False, api.True, api.Int, api.Block, -1, 6} {
		if got, is := class.Text(v, api.Val{K: k, N: free}, class.String); got != "" || is {
			t.Errorf("Text of the kind %d: %q %v", k, got, is)
		}
	}
	read(t, v)
	for _, oop := range oddOops {
		for _, v := range []*view.View{v, nil, {}} {
			if got, is := class.Text(v, ref(oop), 0); got != "" || is {
				t.Errorf("Text of no object: %q %v", got, is)
			}
		}
	}
}
