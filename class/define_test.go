package class_test

import (
	"slices"
	"strings"
	"testing"

	"lapidary/api"
	"lapidary/class"
	"lapidary/value"
	"lapidary/view"
)

func defines(t *testing.T, v *view.View, c int64, source, selector string) {
	t.Helper()
	if s, at, err := class.Define(v, c, source); s != selector || at != 0 || err != api.OK {
		t.Fatalf("Define(%d, %q) = %q %d %v, want %q", c, source, s, at, err, selector)
	}
}

func definesNot(t *testing.T, v *view.View, c int64, source string, at int, want api.Errno) {
	t.Helper()
	s, got, err := class.Define(v, c, source)
	refused(t, v, "Define of "+source, err, want)
	if s != "" || got != at {
		t.Errorf("Define(%d, %q) = %q at %d, want none at %d", c, source, s, got, at)
	}
}

// asAhead asks that what a session did is as in a copy of the view that was taken ahead, and that the next new object is the same one.
func asAhead(t *testing.T, v, ahead *view.View) {
	t.Helper()
	if got, want := v.News(), ahead.News(); !slices.Equal(got, want) {
		t.Errorf("%d were made, want %d", len(got), len(want))
	}
	got, want := v.Changed(), ahead.Changed()
	if !slices.EqualFunc(got, want, func(a, b value.Change) bool { return a.Oop == b.Oop && value.Same(a.Obj, b.Obj) }) {
		t.Errorf("changed are %v, want %v", got, want)
	}
	for _, oop := range ahead.News() {
		o, _ := ahead.Peek(oop)
		same(t, v, oop, o)
	}
	next, err := v.Copy().Make(api.Obj{Class: 1})
	if oop, e := ahead.Copy().Make(api.Obj{Class: 1}); next != oop || err != e {
		t.Errorf("the next one is %d %v, want %d %v", next, err, oop, e)
	}
}

// P13.4: a new message: a Symbol, then a String, at the end of the methods, which alone are written.
func TestDefine(t *testing.T) {
	const first = api.MaxOops + 1
	v := world(t, nil)
	defines(t, v, 1, "foo ^1", "foo")
	same(t, v, first, text(class.Symbol, "foo"))
	same(t, v, first+1, text(class.String, "foo ^1"))
	same(t, v, methodsOf+1, slots(class.Array, ref(first), ref(first+1)))
	defines(t, v, 1, " at: a   put: b \"any\" ", "at:put:")
	same(t, v, first+2, text(class.Symbol, "at:put:"))
	same(t, v, first+3, text(class.String, " at: a   put: b \"any\" "))
	same(t, v, methodsOf+1, slots(class.Array, ref(first), ref(first+1), ref(first+2), ref(first+3)))
	defines(t, v, 1, "- x", "-")
	if got := v.Writes(); !slices.Equal(got, []int64{methodsOf + 1}) || len(v.News()) != 6 {
		t.Error("written were", got, "made", v.News())
	}
	find(t, v, 1, "at:put:", " at: a   put: b \"any\" ", 1)
	find(t, v, 9, "-", "- x", 1)
}

// P13.4: a message that is there gets a new String behind it; what it was stays as it is.
func TestDefineAnew(t *testing.T) {
	const first = api.MaxOops + 1
	v := world(t, map[int64]api.Obj{
		free:     below(1, noNames, free+1),
		free + 1: slots(class.Dictionary, ref(110), ref(111), number(1), ref(112), ref(110), ref(111), ref(110)),
		110:      text(class.Symbol, "foo"),
		111:      text(class.String, "any"),
		112:      text(class.Symbol, "foo"),
	})
	defines(t, v, free, "foo ^2", "foo")
	same(t, v, free+1, slots(class.Dictionary, ref(110), ref(first), number(1), ref(112), ref(110), ref(111), ref(110)))
	same(t, v, first, text(class.String, "foo ^2"))
	same(t, v, 111, text(class.String, "any"))
	defines(t, v, free, "foo ^3", "foo")
	same(t, v, free+1, slots(class.Dictionary, ref(110), ref(first+1), number(1), ref(112), ref(110), ref(111), ref(110)))
	if len(v.News()) != 2 {
		t.Error("made were", v.News())
	}
	find(t, v, free, "foo", "foo ^3", free)
}

// P13.4: a message that is above only, or whose next slot is no String, is a new one; so is one behind an odd number of slots.
func TestDefineNew(t *testing.T) {
	const first = api.MaxOops + 1
	more := func(list ...api.Val) map[int64]api.Obj {
		return map[int64]api.Obj{
			methodsOf + 1: slots(class.Array, ref(110), ref(111)),
			110:           text(class.Symbol, "foo"),
			111:           text(class.String, "foo ^1"),
			free:          below(1, noNames, free+1),
			free + 1:      slots(class.Array, list...),
		}
	}
	for _, list := range [][]api.Val{
		nil,
		{ref(110), ref(110)},
		{ref(110), {}},
		{ref(110)},
		{ref(110), ref(3000)},
		{ref(111), ref(111)},
		{number(1), ref(110), ref(111)},
	} {
		v := world(t, more(list...))
		defines(t, v, free, "foo ^2", "foo")
		same(t, v, free+1, slots(class.Array, append(slices.Clone(list), ref(first), ref(first+1))...))
		same(t, v, first, text(class.Symbol, "foo"))
		same(t, v, first+1, text(class.String, "foo ^2"))
		find(t, v, 1, "foo", "foo ^1", 1)
		if len(list)%2 == 0 {
			find(t, v, free, "foo", "foo ^2", free)
		}
	}
}

// P13.4: what is wrong of the source, with its place, by the names of the class and those above it.
func TestDefineWrong(t *testing.T) {
	v := world(t, map[int64]api.Obj{
		free:     below(1, free+1, noMethods),
		free + 1: text(class.String, "x"),
		free + 2: below(free, free+3, noMethods),
		free + 3: text(class.String, "y"),
	})
	cases := []struct {
		source string
		at     int
		err    api.Errno
	}{
		{"", 0, api.ErrSyntax},
		{"3", 0, api.ErrSyntax},
		{"foo ]", 4, api.ErrSyntax},
		{"foo ^'a", 5, api.ErrSyntax},
		{"foo ^z", 5, api.ErrName},
		{"foo ^y", 5, api.ErrName},
		{"foo y := 1", 4, api.ErrName},
		{"foo: a a := 1", 7, api.ErrName},
		{"foo \x00", 4, api.ErrSyntax},
		{strings.Repeat("(", 41), 0, api.ErrSyntax},
		{"foo " + strings.Repeat("(", 41), 44, api.ErrSize},
		{"foo " + strings.Repeat(" ", api.MaxText), 0, api.ErrSize},
		{"foo ^z" + strings.Repeat(" ", api.MaxBytes), 5, api.ErrName},
		{"foo ]" + strings.Repeat(" ", api.MaxBytes), 4, api.ErrSyntax},
		{"foo ^x" + strings.Repeat(" ", api.MaxBytes-5), 0, api.ErrSize},
		{strings.Repeat("a", api.MaxBytes+1), 0, api.ErrSize},
		{strings.Repeat("a", api.MaxText), 0, api.ErrSize},
	}
	for _, c := range cases {
		definesNot(t, v, free, c.source, c.at, c.err)
	}
	defines(t, v, free, "foo ^x"+strings.Repeat(" ", api.MaxBytes-6), "foo")
	defines(t, v, free, strings.Repeat("a", api.MaxBytes), strings.Repeat("a", api.MaxBytes))
	defines(t, v, free+2, "foo x := y. y := x", "foo")
}

// P13.4: ErrKind of what is no class, ahead of what is wrong of the source.
func TestDefineKind(t *testing.T) {
	v := world(t, nil)
	for _, c := range append([]int64{class.Root, noNames}, oddOops...) {
		for _, v := range []*view.View{v, nil, {}} {
			definesNot(t, v, c, "foo", 0, api.ErrKind)
			definesNot(t, v, c, "foo ]", 0, api.ErrKind)
			definesNot(t, v, c, strings.Repeat("a", api.MaxBytes+1), 0, api.ErrKind)
		}
	}
	for c := int64(1); c <= class.Bag; c++ {
		defines(t, v, c, "foo ^self", "foo")
	}
}

// P13.4: no more than MaxSlots slots, but for a message that is there; behind what is wrong of the source.
func TestDefineSlots(t *testing.T) {
	for n := api.MaxSlots - 3; n <= api.MaxSlots; n++ {
		list := append([]api.Val{ref(110), ref(111)}, make([]api.Val, n-2)...)
		v := world(t, map[int64]api.Obj{
			free:     below(1, noNames, free+1),
			free + 1: slots(class.Array, list...),
			110:      text(class.Symbol, "foo"),
			111:      text(class.String, "foo ^1"),
		})
		long := "bar " + strings.Repeat(" ", api.MaxBytes)
		definesNot(t, v, free, long, 0, api.ErrSize)
		if n+2 > api.MaxSlots {
			definesNot(t, v, free, "bar", 0, api.ErrFull)
		} else {
			defines(t, v, free, "bar", "bar")
		}
		defines(t, v, free, "foo ^2", "foo")
		find(t, v, free, "foo", "foo ^2", free)
	}
}

// P13.4: the view's error at the Symbol, and at the String: nothing is found then that was not there, and nothing is made.
func TestDefineFull(t *testing.T) {
	for left := range 4 {
		v := world(t, map[int64]api.Obj{
			methodsOf + 1: slots(class.Array, ref(110), ref(111)),
			110:           text(class.Symbol, "foo"),
			111:           text(class.String, "foo ^1"),
		})
		fill(t, v, left)
		old := v.Copy()
		s, at, err := class.Define(v, 1, "bar")
		if left >= 2 {
			if s != "bar" || at != 0 || err != api.OK {
				t.Errorf("Define with room for %d: %q %d %v", left, s, at, err)
			}
		} else {
			if s != "" || at != 0 || err != api.ErrFull {
				t.Errorf("Define with room for %d: %q %d %v", left, s, at, err)
			}
			asAhead(t, v, old)
			find(t, v, 1, "bar", "", 0)
			same(t, v, methodsOf+1, slots(class.Array, ref(110), ref(111)))
		}
		if left == 0 {
			ahead := old.Copy()
			if s, _, err := class.Define(old, 1, "foo ^2"); s != "" || err != api.ErrFull {
				t.Error("Define anew without room", s, err)
			}
			asAhead(t, old, ahead)
			find(t, old, 1, "foo", "foo ^1", 1)
		} else {
			defines(t, old, 1, "foo ^2", "foo")
		}
	}
}

// P13.4: a Define that is refused for want of room leaves the room that there was.
func TestDefineLeavesRoom(t *testing.T) {
	v := world(t, map[int64]api.Obj{
		methodsOf + 1: slots(class.Array, ref(110), ref(111)),
		110:           text(class.Symbol, "foo"),
		111:           text(class.String, "foo ^1"),
	})
	fill(t, v, 1)
	for range 3 {
		if s, at, err := class.Define(v, 1, "bar"); s != "" || at != 0 || err != api.ErrFull {
			t.Errorf("Define with room for one: %q %d %v", s, at, err)
		}
	}
	defines(t, v, 1, "foo ^2", "foo")
	find(t, v, 1, "foo", "foo ^2", 1)
	same(t, v, 2*api.MaxOops, text(class.String, "foo ^2"))
}

// P13.4: methods that are not there: Put's error, if there is room for what is made ahead of it; nothing is made, nor written.
func TestDefineNowhere(t *testing.T) {
	for left, want := range []api.Errno{api.ErrFull, api.ErrFull, api.ErrNone, api.ErrNone, api.ErrNone} {
		v := world(t, map[int64]api.Obj{free: below(1, noNames, 3000)})
		defines(t, v, 1, "bar", "bar")
		fill(t, v, left)
		ahead := v.Copy()
		for range 2 {
			if s, at, err := class.Define(v, free, "foo"); s != "" || at != 0 || err != want {
				t.Errorf("Define with room for %d: %q %d %v, want %v", left, s, at, err, want)
			}
			asAhead(t, v, ahead)
		}
	}
	v := world(t, map[int64]api.Obj{free: below(1, noNames, 3000)})
	definesNot(t, v, free, "foo", 0, api.ErrNone)
	if got := v.Reads(); !slices.Equal(got, []int64{1, noNames, free, 3000}) {
		t.Error("read were", got)
	}
}

// P13.4: methods that are not there, though a new object would get their oop.
func TestDefineNowhereYet(t *testing.T) {
	for methods := int64(api.MaxOops + 2); methods < api.MaxOops+6; methods++ {
		v := world(t, nil)
		c := made(t, v, below(1, noNames, methods))
		ahead := v.Copy()
		if s, at, err := class.Define(v, c, "foo"); s != "" || at != 0 || err != api.ErrNone {
			t.Errorf("Define with its methods at %d: %q %d %v", methods, s, at, err)
		}
		asAhead(t, v, ahead)
	}
}

// P13.4: what Define reads: the chain and its names; then the methods of the class alone, as Find does.
func TestDefineReads(t *testing.T) {
	more := map[int64]api.Obj{
		free:     below(1, free+1, free+2),
		free + 1: text(class.String, "x"),
		free + 2: slots(class.Array, ref(110), ref(111), ref(112), ref(113), ref(114), ref(115)),
		110:      text(class.Symbol, "foo"), 111: text(class.String, "foo"),
		112: text(class.Symbol, "bar"), 113: text(class.String, "bar"),
		114: text(class.Symbol, "baz"), 115: text(class.String, "baz"),
	}
	cases := []struct {
		c      int64
		source string
		reads  []int64
	}{
		{3000, "foo", []int64{3000}},
		{free, "foo ]", []int64{1, noNames, free, free + 1}},
		{free, "bar ^1", []int64{1, noNames, free, free + 1, free + 2, 110, 112, 113}},
		{free, "new ^1", []int64{1, noNames, free, free + 1, free + 2, 110, 112, 114}},
	}
	for _, c := range cases {
		v := world(t, more)
		class.Define(v, c.c, c.source)
		if got := v.Reads(); !slices.Equal(got, c.reads) {
			t.Errorf("Define(%d, %q) read %v, want %v", c.c, c.source, got, c.reads)
		}
	}
}
