package class_test

import (
	"math"
	"slices"
	"strconv"
	"strings"
	"testing"

	"lapidary/api"
	"lapidary/class"
	"lapidary/value"
	"lapidary/view"
)

// letters are n names that no other ones are, from a number on.
func letters(from, n int) []string {
	var out []string
	for i := range n {
		out = append(out, "n"+strconv.Itoa(from+i))
	}
	return out
}

// makes makes a class, which must go.
func makes(t *testing.T, v *view.View, super int64, name string, slots ...string) int64 {
	t.Helper()
	c, err := class.Make(v, super, name, slots)
	if err != api.OK {
		t.Fatalf("Make(%d, %q, %q): %v", super, name, slots, err)
	}
	return c
}

// refused asks that nothing was made and written; what was read is not held against anything.
func refused(t *testing.T, v *view.View, what string, got, want api.Errno) {
	t.Helper()
	if got != want {
		t.Errorf("%s: %v, want %v", what, got, want)
	}
	if len(v.Writes())+len(v.News()) != 0 {
		t.Errorf("%s: refused, but the view is changed: %v %v", what, v.Writes(), v.News())
	}
}

func makesNot(t *testing.T, v *view.View, super int64, name string, slots []string, want api.Errno) {
	t.Helper()
	c, err := class.Make(v, super, name, slots)
	refused(t, v, "Make of "+name, err, want)
	if c != 0 {
		t.Errorf("Make(%d, %q, %q) = %d beside an error", super, name, slots, c)
	}
}

func same(t *testing.T, v *view.View, oop int64, want api.Obj) {
	t.Helper()
	if o, err := v.Peek(oop); err != api.OK || !value.Same(o, want) {
		t.Errorf("the object %d is %v %v, want %v", oop, o, err, want)
	}
}

// P13.3: a class, and the two objects that it needs, in this order; those that are read are those of the chain above it.
func TestMake(t *testing.T) {
	v := world(t, nil)
	const names, methods = api.MaxOops + 1, api.MaxOops + 2
	p := makes(t, v, 1, "P", "x", "yY_9")
	if p != api.MaxOops+3 || len(v.Writes()) != 0 {
		t.Errorf("the class is %d; %v were written", p, v.Writes())
	}
	same(t, v, names, text(class.String, "x yY_9"))
	same(t, v, methods, api.Obj{Class: class.Array})
	whole := below(1, names, methods)
	whole.Bytes = []byte("P")
	same(t, v, p, whole)
	if got := v.Reads(); !slices.Equal(got, []int64{1, noNames}) {
		t.Error("read were", got)
	}
	q := makes(t, v, p, "Q1_z")
	same(t, v, q-2, api.Obj{Class: class.String})
	if !class.Is(v, q) || !slices.Equal(class.Chain(v, q), []int64{q, p, 1}) || !slices.Equal(class.Names(v, q), []string{"x", "yY_9"}) {
		t.Error("the class below it", class.Chain(v, q), class.Names(v, q))
	}
	if r := makes(t, v, p, "P", "z"); r == p || !slices.Equal(class.Names(v, r), []string{"x", "yY_9", "z"}) {
		t.Error("a class with the same name", r)
	}
}

// P13.3: ErrKind of what is no class, and of the classes from 2 to 14, ahead of all others.
func TestMakeKind(t *testing.T) {
	long := strings.Repeat("a", api.MaxBytes+1)
	v := world(t, map[int64]api.Obj{free: slots(2, number(1), ref(noNames), ref(noMethods))})
	for _, super := range append([]int64{2, 3, 4, 5, 6, 7, 8, 9, 10, 11, 12, 13, 14, class.Root, noNames, free}, oddOops...) {
		makesNot(t, v, super, "P", nil, api.ErrKind)
		makesNot(t, v, super, long, letters(0, 31), api.ErrKind)
		makesNot(t, v, super, "p", []string{"self"}, api.ErrKind)
	}
	for _, v := range []*view.View{nil, {}} {
		makesNot(t, v, 1, "P", nil, api.ErrKind)
	}
	v = world(t, map[int64]api.Obj{class.Root: below(1, noNames, noMethods)})
	makes(t, v, class.Root, "P") // 15 is none of those that are refused, if it is a class
}

// P13.3: how many slots, and how long a name and all slots may be.
func TestMakeSize(t *testing.T) {
	fits := strings.Repeat("A", api.MaxBytes)
	slot := strings.Repeat("a", api.MaxBytes)
	v := world(t, nil)
	makesNot(t, v, 1, "P", letters(0, 31), api.ErrSize)
	makesNot(t, v, 1, "P", make([]string, 31), api.ErrSize)
	makesNot(t, v, 1, fits+"A", nil, api.ErrSize)
	makesNot(t, v, 1, strings.Repeat("a", api.MaxBytes+1), nil, api.ErrSize)
	makesNot(t, v, 1, "P", []string{slot + "a"}, api.ErrSize)
	makesNot(t, v, 1, "P", []string{slot[:500], "b" + slot[:523]}, api.ErrSize)
	makesNot(t, v, 1, "p", []string{"self", slot}, api.ErrSize)
	makesNot(t, v, 1, "P", append(slices.Repeat([]string{slot[:40]}, 25), "a"), api.ErrSize) // 1026: with the blanks
	c := makes(t, v, 1, fits, letters(0, 30)...)
	same(t, v, c-2, text(class.String, strings.Join(letters(0, 30), " ")))
	c = makes(t, v, 1, "P", slot[:500], "b"+slot[:522])
	same(t, v, c-2, text(class.String, slot[:500]+" b"+slot[:522]))
	makes(t, v, 1, "P", slot)
}

// P13.3: names that are none, and slots that can not be.
func TestMakeNames(t *testing.T) {
	v := world(t, nil)
	for _, name := range []string{"", "p", "_P", "1P", "P Q", "P:", "P-", " P", "P ", "\xc3\x84", "self", "@", "[", "`", "{", "\x00P"} {
		makesNot(t, v, 1, name, nil, api.ErrName)
	}
	for _, slot := range []string{"", "X", "Xy", "_x", "1x", "x y", "x:", " x", "x\n", "\xc3\xa4", "self", "super", "nil", "false", "true", "@", "[", "`", "{"} {
		makesNot(t, v, 1, "P", []string{slot}, api.ErrName)
		makesNot(t, v, 1, "P", []string{"a", slot, "b"}, api.ErrName)
		makesNot(t, v, 1, "P", []string{"a", "b", slot}, api.ErrName)
	}
	makesNot(t, v, 1, "P", []string{"x", "y", "x"}, api.ErrName)
	makesNot(t, v, 1, "P", []string{"x", "x"}, api.ErrName)
	for _, name := range []string{"A", "Z", "Self", "True", "P", "Object", "Aa_0Z"} {
		makes(t, v, 1, name)
	}
	for _, slot := range []string{"a", "z", "aZ_9", "selfs", "supe", "nill", "tru", "falsE", "thisContext"} {
		makes(t, v, 1, "P", slot)
	}
}

// P13.3: slots that stand above already; all of them together are 30 at most, and a name that stands twice is told first.
func TestMakeBelow(t *testing.T) {
	v := world(t, map[int64]api.Obj{
		free:     below(1, free+1, noMethods),
		free + 1: text(class.String, strings.Join(letters(0, 20), " ")),
		free + 2: below(free, free+3, noMethods),
		free + 3: text(class.String, "a  b a"), // that one stands twice above is nobody's slot
		free + 4: below(1, free+5, noMethods),
		free + 5: text(class.String, strings.Join(letters(0, 30), " ")),
		free + 6: below(1, free+7, noMethods),
		free + 7: text(class.String, strings.Join(letters(0, 31), " ")),
	})
	for _, slot := range []string{"n0", "n19", "a", "b"} {
		makesNot(t, v, free+2, "P", []string{slot}, api.ErrName)
		makesNot(t, v, free+2, "P", append(letters(30, 29), slot), api.ErrName)
	}
	makesNot(t, v, free+2, "P", letters(30, 8), api.ErrSize)
	makesNot(t, v, free, "P", letters(30, 11), api.ErrSize)
	makesNot(t, v, free, "p", letters(30, 11), api.ErrName)
	makesNot(t, v, free+4, "P", []string{"x"}, api.ErrSize)
	makesNot(t, v, free+6, "P", nil, api.ErrSize)
	if c := makes(t, v, free+2, "P", letters(30, 7)...); len(class.Names(v, c)) != 30 {
		t.Error("30 names", class.Names(v, c))
	}
	makes(t, v, free, "P", letters(30, 10)...)
	makes(t, v, free+4, "P")
}

// P13.3: the view's error at each of the three objects; what is wrong of itself is told ahead of it.
func TestMakeFull(t *testing.T) {
	for left := range 3 {
		v := world(t, nil)
		fill(t, v, left)
		if c, err := class.Make(v, 1, "P", []string{"x"}); c != 0 || err != api.ErrFull {
			t.Errorf("Make with room for %d: %d %v", left, c, err)
		}
		if _, err := class.Make(v, 1, "p", nil); err != api.ErrName {
			t.Error("Make of no name", err)
		}
	}
	v := world(t, nil)
	fill(t, v, 3)
	if c := makes(t, v, 1, "P", "x"); c != 2*api.MaxOops {
		t.Error("the last one is", c)
	}
}

// P13.3: the list of slots is not kept, and stays as it is.
func TestMakeKeepsNoList(t *testing.T) {
	v := world(t, nil)
	list := []string{"x", "y"}
	c := makes(t, v, 1, "P", list...)
	list[0] = "z"
	names(t, v, c, "x", "y")
	class.Names(v, c)[0] = "z"
	names(t, v, c, "x", "y")
	class.Chain(v, c)[0] = 7
	chain(t, v, c, c, 1)
	if list[0] != "z" || list[1] != "y" {
		t.Error("the list", list)
	}
}

// P13.5 and P13.7: an object of each class that is always there.
func TestNewOfEach(t *testing.T) {
	cases := []struct {
		c     int64
		n     int
		slots []api.Val
		bytes int
		err   api.Errno
	}{
		{c: 1}, {c: 1, n: 1, err: api.ErrArg},
		{c: 2, err: api.ErrKind}, {c: 3, err: api.ErrKind}, {c: 4, err: api.ErrKind}, {c: 5, err: api.ErrKind},
		{c: 6, err: api.ErrKind}, {c: 7, err: api.ErrKind}, {c: 9, err: api.ErrKind}, {c: 11, err: api.ErrKind},
		{c: 2, n: 1, err: api.ErrKind}, {c: 9, n: math.MaxInt, err: api.ErrKind}, {c: 11, n: 3, err: api.ErrKind},
		{c: 8}, {c: 8, n: 3, bytes: 3}, {c: 8, n: api.MaxSlots + 1, bytes: api.MaxSlots + 1}, {c: 8, n: api.MaxBytes, bytes: api.MaxBytes},
		{c: 8, n: api.MaxBytes + 1, err: api.ErrSize}, {c: 8, n: math.MaxInt, err: api.ErrSize},
		{c: 10}, {c: 10, n: 2, slots: make([]api.Val, 2)}, {c: 10, n: api.MaxSlots, slots: make([]api.Val, api.MaxSlots)},
		{c: 10, n: api.MaxSlots + 1, err: api.ErrSize}, {c: 10, n: math.MaxInt, err: api.ErrSize},
		{c: 12}, {c: 12, n: 5}, {c: 12, n: math.MaxInt},
		{c: 13, slots: []api.Val{number(0)}}, {c: 13, n: 7, slots: []api.Val{number(0)}},
		{c: 14}, {c: 14, n: 1},
		{c: 15, err: api.ErrKind}, {c: 15, n: 1, err: api.ErrKind},
	}
	for _, c := range cases {
		v := world(t, nil)
		oop, err := class.New(v, c.c, c.n)
		if c.err != api.OK {
			refused(t, v, "New of "+strconv.FormatInt(c.c, 10), err, c.err)
			if oop != 0 {
				t.Error("New beside an error", oop)
			}
			continue
		}
		if err != api.OK || oop != api.MaxOops+1 || len(v.News()) != 1 {
			t.Errorf("New(%d, %d) = %d %v, made %v", c.c, c.n, oop, err, v.News())
		}
		same(t, v, oop, api.Obj{Class: c.c, Slots: c.slots, Bytes: make([]byte, c.bytes)})
	}
}

// P13.5: n below 0 is told behind a class that is none, and ahead of one of which there are none.
func TestNewWrong(t *testing.T) {
	v := world(t, nil)
	for c := int64(1); c <= class.Bag; c++ {
		for _, n := range []int{-1, math.MinInt} {
			_, err := class.New(v, c, n)
			refused(t, v, "New of "+strconv.FormatInt(c, 10)+" below 0", err, api.ErrArg)
		}
	}
	for _, c := range append([]int64{class.Root, noNames}, oddOops...) {
		for _, n := range []int{0, -1, 1} {
			for _, v := range []*view.View{v, nil, {}} {
				oop, err := class.New(v, c, n)
				refused(t, v, "New of no class", err, api.ErrKind)
				if oop != 0 {
					t.Error("New of no class", oop)
				}
			}
		}
	}
	for c := range int64(class.Bag) {
		v := world(t, map[int64]api.Obj{c + 1: {Class: 1}}) // a class that is none any more
		_, err := class.New(v, c+1, 0)
		refused(t, v, "New of what was a class", err, api.ErrKind)
	}
}

// P13.5 and P13.7: an object of any other class has a slot for each of its names; the view's error, if they are too many, or there is no room.
func TestNewOfOthers(t *testing.T) {
	v := world(t, map[int64]api.Obj{
		class.Root: below(1, noNames, noMethods),
		free:       below(1, free+1, noMethods),
		free + 1:   text(class.String, "x y z"),
		free + 2:   below(free, free+1, noMethods),
		free + 3:   below(1, free+4, noMethods),
		free + 4:   text(class.String, strings.Repeat("a ", api.MaxSlots)),
		free + 5:   below(free+3, free+6, noMethods),
		free + 6:   text(class.String, "b"),
	})
	for c, n := range map[int64]int{1: 0, class.Root: 0, free: 3, free + 2: 6, free + 3: api.MaxSlots} {
		oop, err := class.New(v, c, 0)
		if err != api.OK {
			t.Errorf("New(%d): %v", c, err)
		}
		same(t, v, oop, slots(c, make([]api.Val, n)...))
		if _, err := class.New(v, c, 1); err != api.ErrArg {
			t.Errorf("New(%d, 1): %v", c, err)
		}
	}
	if oop, err := class.New(v, free+5, 0); oop != 0 || err != api.ErrArg {
		t.Error("New of too many slots", oop, err)
	}
	fill(t, v, 1)
	if oop, err := class.New(v, free, 0); oop != 2*api.MaxOops || err != api.OK {
		t.Error("the last New", oop, err)
	}
	for _, c := range []int64{1, class.String, class.Array, class.Dictionary, class.Counter, class.Bag, free} {
		if oop, err := class.New(v, c, 0); oop != 0 || err != api.ErrFull {
			t.Error("New of a view that is full", c, oop, err)
		}
	}
	if _, err := class.New(v, class.Array, api.MaxSlots+1); err != api.ErrSize {
		t.Error("New of too many slots, in a view that is full", err)
	}
}

// P13.5: what New reads: the class, and the names where they are slots.
func TestNewReads(t *testing.T) {
	more := map[int64]api.Obj{free: below(1, free+1, noMethods), free + 1: text(class.String, "x")}
	for c, want := range map[int64][]int64{
		class.Array: {class.Array}, class.String: {class.String}, class.Bag: {class.Bag}, class.Symbol: {class.Symbol},
		1: {1, noNames}, free: {1, noNames, free, free + 1},
	} {
		v := world(t, more)
		class.New(v, c, 0)
		if got := v.Reads(); !slices.Equal(got, want) {
			t.Errorf("New(%d) read %v, want %v", c, got, want)
		}
	}
}
