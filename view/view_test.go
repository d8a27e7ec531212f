package view_test

import (
	"math"
	"slices"
	"testing"

	"lapidary/api"
	"lapidary/table"
	"lapidary/value"
	"lapidary/view"
)

const firstNew, lastNew = api.MaxOops + 1, 2 * api.MaxOops

// objects of which no two are alike
var (
	a = api.Obj{Class: 1}
	b = api.Obj{Class: 2, Slots: []api.Val{{K: api.Int, N: -7}, {K: api.Ref, N: lastNew}}}
	c = api.Obj{Class: lastNew, Bytes: []byte("c")}
)

// withSlots is an object with these slots.
func withSlots(slots ...api.Val) api.Obj { return api.Obj{Class: 1, Slots: slots} }

// commit applies one more commit to a table: these objects, of class 1, with the commit's number as a slot.
func commit(t *testing.T, x *table.Table, oops ...int64) {
	t.Helper()
	r := value.Record{Commit: x.Last() + 1}
	for _, oop := range oops {
		r.Changes = append(r.Changes, value.Change{Oop: oop, Obj: of(r.Commit)})
	}
	if err := x.Apply(r); err != api.OK {
		t.Fatal("Apply", err)
	}
}

// of is what commit makes of an object.
func of(commit int64) api.Obj { return withSlots(api.Val{K: api.Int, N: commit}) }

func is(t *testing.T, v *view.View, oop int64, want api.Obj) {
	t.Helper()
	if o, err := v.Peek(oop); err != api.OK || !value.Same(o, want) {
		t.Errorf("Peek(%d) = %v %v, want %v", oop, o, err, want)
	}
}

func isNot(t *testing.T, v *view.View, oop int64, want api.Errno) {
	t.Helper()
	if o, err := v.Peek(oop); err != want || !value.Same(o, api.Obj{}) {
		t.Errorf("Peek(%d) = %v %v, want nothing and %v", oop, o, err, want)
	}
}

func put(t *testing.T, v *view.View, oop int64, o api.Obj, want api.Errno) {
	t.Helper()
	if err := v.Put(oop, o); err != want {
		t.Errorf("Put(%d, %v) = %v, want %v", oop, o, err, want)
	}
}

func makes(t *testing.T, v *view.View, o api.Obj, oop int64, want api.Errno) {
	t.Helper()
	if n, err := v.Make(o); n != oop || err != want {
		t.Errorf("Make(%v) = %d %v, want %d %v", o, n, err, oop, want)
	}
}

func list(t *testing.T, what string, got []int64, want ...int64) {
	t.Helper()
	if !slices.Equal(got, want) {
		t.Errorf("%s: %v, want %v", what, got, want)
	}
}

// did asks for what was read, written and how many were made.
func did(t *testing.T, v *view.View, reads, writes []int64, made int64) {
	t.Helper()
	list(t, "Reads", v.Reads(), reads...)
	list(t, "Writes", v.Writes(), writes...)
	news := v.News()
	if int64(len(news)) != made {
		t.Errorf("%d were made, want %d", len(news), made)
	}
	for i, oop := range news {
		if oop != firstNew+int64(i) {
			t.Errorf("the new one %d is %d", i, oop)
		}
	}
}

func changed(t *testing.T, v *view.View, want ...value.Change) {
	t.Helper()
	same := func(x, y value.Change) bool {
		return x.Oop == y.Oop && x.Gone == y.Gone && value.Same(x.Obj, y.Obj)
	}
	if got := v.Changed(); !slices.EqualFunc(got, want, same) {
		t.Errorf("Changed: %v, want %v", got, want)
	}
}

// P12.1: a view of a table, of an empty one, and one that New did not make.
func TestNew(t *testing.T) {
	x := table.New()
	commit(t, x, 5)
	commit(t, x, 6)
	v := view.New(x)
	if v.Base() != 2 {
		t.Error("Base", v.Base())
	}
	is(t, v, 5, of(1))
	is(t, v, 6, of(2))
	did(t, v, nil, nil, 0)
	changed(t, v)
	for _, v := range []*view.View{view.New(table.New()), {}, new(view.View).Copy()} {
		if v.Base() != 0 {
			t.Error("Base", v.Base())
		}
		isNot(t, v, 1, api.ErrNone)
		put(t, v, 1, a, api.ErrNone)
		did(t, v, nil, nil, 0)
		v.Read(1)
		makes(t, v, a, firstNew, api.OK)
		is(t, v, firstNew, a)
		did(t, v, []int64{1}, nil, 1)
	}
}

// P12.1: nil.
func TestNil(t *testing.T) {
	if v := view.New(nil); v != nil {
		t.Error("New(nil)", v)
	}
	var v *view.View
	isNot(t, v, 1, api.ErrNil)
	isNot(t, v, -1, api.ErrNil)
	if o, err := v.Get(1); err != api.ErrNil || !value.Same(o, api.Obj{}) {
		t.Error("Get", o, err)
	}
	v.Read(1)
	put(t, v, 1, a, api.ErrNil)
	put(t, v, 1, api.Obj{}, api.ErrNil)
	makes(t, v, a, 0, api.ErrNil)
	makes(t, v, withSlots(api.Val{K: api.Block}), 0, api.ErrNil)
	did(t, v, nil, nil, 0)
	changed(t, v)
	if v.Base() != 0 || v.Copy() != nil {
		t.Error("nil has", v.Base(), v.Copy())
	}
}

// P12.1: whatever commits come, a view sees its own, till the table forgets it.
func TestLaterCommits(t *testing.T) {
	x := table.New()
	commit(t, x, 5, 6, 7)
	v := view.New(x)
	put(t, v, 6, b, api.OK)
	makes(t, v, c, firstNew, api.OK)
	commit(t, x, 5, 6, 8)
	x.Apply(value.Record{Commit: 3, Changes: []value.Change{{Oop: 7, Gone: true}}})
	w := view.New(x)
	for range 2 {
		is(t, v, 5, of(1))
		is(t, v, 6, b)
		is(t, v, 7, of(1))
		isNot(t, v, 8, api.ErrNone)
		is(t, w, 5, of(2))
		is(t, w, 6, of(2))
		isNot(t, w, 7, api.ErrNone)
		if v.Base() != 1 || w.Base() != 3 {
			t.Error("Base", v.Base(), w.Base())
		}
		if err := x.Forget(1); err != api.OK { // that one is kept
			t.Fatal("Forget", err)
		}
	}
}

// P12.1: of a commit that was forgotten nothing is seen any more but what the session did itself.
func TestForgotten(t *testing.T) {
	x := table.New()
	commit(t, x, 5, 6)
	v := view.New(x)
	put(t, v, 6, b, api.OK)
	makes(t, v, c, firstNew, api.OK)
	commit(t, x)
	w := view.New(x)
	if err := x.Forget(2); err != api.OK {
		t.Fatal("Forget", err)
	}
	isNot(t, v, 5, api.ErrNone)
	if o, err := v.Get(5); err != api.ErrNone || !value.Same(o, api.Obj{}) {
		t.Error("Get", o, err)
	}
	put(t, v, 5, a, api.ErrNone)
	put(t, v, 5, api.Obj{}, api.ErrNone)
	is(t, v, 6, b)
	put(t, v, 6, a, api.OK)
	is(t, v, 6, a)
	is(t, v, firstNew, c)
	did(t, v, []int64{5}, []int64{6}, 1)
	changed(t, v, value.Change{Oop: 6, Obj: a})
	if v.Base() != 1 {
		t.Error("Base", v.Base())
	}
	is(t, w, 5, of(1))
	is(t, w, 6, of(1))
}

// P12.1: oops that nothing is, and which of them were read.
func TestReads(t *testing.T) {
	x := table.New()
	commit(t, x, 1, 5, api.MaxOops)
	v := view.New(x)
	makes(t, v, a, firstNew, api.OK)
	none := []int64{math.MinInt64, -1, 0, 2, api.MaxOops - 1, firstNew + 1, lastNew, lastNew + 1, math.MaxInt64}
	for _, oop := range none {
		isNot(t, v, oop, api.ErrNone)
		put(t, v, oop, a, api.ErrNone)
	}
	is(t, v, 5, of(1))
	did(t, v, nil, nil, 1)
	put(t, v, 5, b, api.OK) // what is written is not read by it
	did(t, v, nil, []int64{5}, 1)
	for _, oop := range none {
		if o, err := v.Get(oop); err != api.ErrNone || !value.Same(o, api.Obj{}) {
			t.Errorf("Get(%d) = %v %v", oop, o, err)
		}
	}
	did(t, v, []int64{2, api.MaxOops - 1}, []int64{5}, 1)
	for oop, want := range map[int64]api.Obj{5: b, 1: of(1), api.MaxOops: of(1), firstNew: a} {
		for range 2 {
			if o, err := v.Get(oop); err != api.OK || !value.Same(o, want) {
				t.Errorf("Get(%d) = %v %v, want %v", oop, o, err, want)
			}
		}
	}
	did(t, v, []int64{1, 2, 5, api.MaxOops - 1, api.MaxOops}, []int64{5}, 1)
	w := view.New(x)
	for _, oop := range append(none, 9, 3, 9, firstNew, api.MaxOops, 1) {
		w.Read(oop)
	}
	did(t, w, []int64{1, 2, 3, 9, api.MaxOops - 1, api.MaxOops}, nil, 0)
}

// P12.2, P12.5: what was put last is all that an object is, of those of the commit and of new ones.
func TestPut(t *testing.T) {
	x := table.New()
	commit(t, x, 5, 9, api.MaxOops)
	v := view.New(x)
	makes(t, v, b, firstNew, api.OK)
	makes(t, v, b, firstNew+1, api.OK)
	for _, o := range []api.Obj{c, b, a, c} {
		put(t, v, api.MaxOops, o, api.OK)
		put(t, v, 5, o, api.OK)
		put(t, v, firstNew, o, api.OK)
		is(t, v, 5, o)
		is(t, v, api.MaxOops, o)
		is(t, v, firstNew, o)
		is(t, v, 9, of(1))
		is(t, v, firstNew+1, b)
		did(t, v, nil, []int64{5, api.MaxOops}, 2)
		changed(t, v, value.Change{Oop: 5, Obj: o}, value.Change{Oop: api.MaxOops, Obj: o})
	}
	put(t, v, 9, of(1), api.OK) // as it was: it was written all the same
	did(t, v, nil, []int64{5, 9, api.MaxOops}, 2)
	changed(t, v, value.Change{Oop: 5, Obj: c}, value.Change{Oop: 9, Obj: of(1)}, value.Change{Oop: api.MaxOops, Obj: c})
}

// wrong are objects that can not be put, and by which error.
func wrong() map[api.Errno][]api.Obj {
	block := api.Val{K: api.Block, N: 3}
	many := make([]api.Val, api.MaxSlots+1)
	return map[api.Errno][]api.Obj{
		api.ErrKeep: {
			withSlots(block),
			withSlots(api.Val{K: api.Block}),
			withSlots(api.Val{K: api.Block, N: -1}),
			withSlots(api.Val{K: api.Int, N: api.Small}, block), // ErrKeep is named first
			withSlots(block, api.Val{K: 6}),
			{Slots: []api.Val{block}},
			{Class: lastNew + 1, Slots: []api.Val{{}, block}, Bytes: make([]byte, api.MaxBytes+1)},
			withSlots(append(many, block)...),
		},
		api.ErrArg: {
			{},
			{Class: -1},
			{Class: lastNew + 1},
			{Class: math.MaxInt64},
			withSlots(many...),
			{Class: 1, Bytes: make([]byte, api.MaxBytes+1)},
			withSlots(api.Val{K: api.Nil, N: 1}),
			withSlots(api.Val{K: api.Int, N: api.Small}),
			withSlots(api.Val{K: api.Int}, api.Val{K: api.Ref}),
			withSlots(api.Val{K: api.Ref, N: lastNew + 1}),
			withSlots(api.Val{K: -1}),
			withSlots(api.Val{K: 6}),
		},
	}
}

// P12.2: what can not be put or made changes nothing.
func TestWrongObjects(t *testing.T) {
	x := table.New()
	commit(t, x, 5)
	v := view.New(x)
	makes(t, v, b, firstNew, api.OK)
	for err, objects := range wrong() {
		for _, o := range objects {
			put(t, v, 5, o, err)
			put(t, v, firstNew, o, err)
			put(t, v, 6, o, api.ErrNone)
			put(t, v, firstNew+1, o, api.ErrNone)
			makes(t, v, o, 0, err)
		}
	}
	is(t, v, 5, of(1))
	is(t, v, firstNew, b)
	isNot(t, v, firstNew+1, api.ErrNone)
	did(t, v, nil, nil, 1)
	makes(t, v, c, firstNew+1, api.OK)
}

// P12.2: MaxOops new objects, and one more.
func TestFull(t *testing.T) {
	v := view.New(table.New())
	for i := range int64(api.MaxOops) {
		makes(t, v, api.Obj{Class: i + 1}, firstNew+i, api.OK)
	}
	for range 2 {
		makes(t, v, a, 0, api.ErrFull)
	}
	makes(t, v, withSlots(api.Val{K: api.Block}), 0, api.ErrKeep)
	makes(t, v, api.Obj{}, 0, api.ErrArg)
	makes(t, v.Copy(), a, 0, api.ErrFull)
	did(t, v, nil, nil, api.MaxOops)
	is(t, v, firstNew, api.Obj{Class: 1})
	is(t, v, lastNew, api.Obj{Class: api.MaxOops})
	isNot(t, v, lastNew+1, api.ErrNone)
	put(t, v, lastNew, c, api.OK)
	is(t, v, lastNew, c)
	changed(t, v)
}

// P12.3: which values can be in a view.
func TestRight(t *testing.T) {
	right := []api.Val{
		{K: api.Nil}, {K: api.False}, {K: api.True},
		{K: api.Int}, {K: api.Int, N: -api.Small}, {K: api.Int, N: api.Small - 1},
		{K: api.Ref, N: 1}, {K: api.Ref, N: api.MaxOops}, {K: api.Ref, N: firstNew}, {K: api.Ref, N: lastNew},
	}
	for _, x := range right {
		if !view.Right(x) {
			t.Error("can be:", x)
		}
	}
	not := []api.Val{
		{K: api.Nil, N: 1}, {K: api.False, N: -1}, {K: api.True, N: 1},
		{K: api.Int, N: -api.Small - 1}, {K: api.Int, N: api.Small}, {K: api.Int, N: math.MinInt64}, {K: api.Int, N: math.MaxInt64},
		{K: api.Ref}, {K: api.Ref, N: -1}, {K: api.Ref, N: lastNew + 1}, {K: api.Ref, N: math.MinInt64}, {K: api.Ref, N: math.MaxInt64},
		{K: api.Block}, {K: api.Block, N: 1}, {K: 6}, {K: -1}, {K: math.MaxInt, N: 1}, {K: math.MinInt},
	}
	for _, x := range not {
		if view.Right(x) {
			t.Error("can not be:", x)
		}
	}
}

// P12.3: which objects can be in a view.
func TestRightObj(t *testing.T) {
	full := api.Obj{Class: lastNew, Slots: make([]api.Val, api.MaxSlots), Bytes: make([]byte, api.MaxBytes)}
	for i := range full.Slots {
		full.Slots[i] = api.Val{K: api.Ref, N: lastNew - int64(i)}
	}
	for _, o := range []api.Obj{a, b, c, full, {Class: api.MaxOops}, {Class: firstNew}} {
		if !view.RightObj(o) {
			t.Error("can be:", o)
		}
	}
	for _, objects := range wrong() {
		for _, o := range objects {
			if view.RightObj(o) {
				t.Error("can not be:", o)
			}
		}
	}
	v := view.New(table.New())
	makes(t, v, full, firstNew, api.OK)
	is(t, v, firstNew, full)
}

// P12.3: a copy is as the view is, and both go on alone.
func TestCopy(t *testing.T) {
	x := table.New()
	commit(t, x, 5, 6, 7)
	v := view.New(x)
	v.Read(5)
	put(t, v, 6, b, api.OK)
	makes(t, v, c, firstNew, api.OK)
	commit(t, x, 5, 6, 7)
	w := v.Copy()
	for _, one := range []*view.View{v, w} {
		if one.Base() != 1 {
			t.Error("Base", one.Base())
		}
		is(t, one, 5, of(1))
		is(t, one, 6, b)
		is(t, one, firstNew, c)
		did(t, one, []int64{5}, []int64{6}, 1)
	}
	v.Read(1)
	put(t, v, 6, a, api.OK)
	put(t, v, firstNew, a, api.OK)
	w.Read(2)
	put(t, w, 7, c, api.OK)
	makes(t, w, b, firstNew+1, api.OK)
	is(t, v, 6, a)
	is(t, v, 7, of(1))
	is(t, v, firstNew, a)
	isNot(t, v, firstNew+1, api.ErrNone)
	is(t, w, 6, b)
	is(t, w, 7, c)
	is(t, w, firstNew, c)
	did(t, v, []int64{1, 5}, []int64{6}, 1)
	did(t, w, []int64{2, 5}, []int64{6, 7}, 2)
	changed(t, v, value.Change{Oop: 6, Obj: a})
	changed(t, w, value.Change{Oop: 6, Obj: b}, value.Change{Oop: 7, Obj: c})
	makes(t, v, c, firstNew+1, api.OK)
	is(t, w, firstNew+1, b)
	u := view.New(x).Copy() // of one that did nothing
	u.Read(5)
	put(t, u, 5, a, api.OK)
	did(t, u, []int64{5}, []int64{5}, 0)
}

// P12.4: the chapter's example, and the table behind it.
func TestAlone(t *testing.T) {
	x := table.New()
	commit(t, x, 5)
	v, w := view.New(x), view.New(x)
	put(t, v, 5, b, api.OK)
	makes(t, v, c, firstNew, api.OK)
	is(t, v, 5, b)
	for _, other := range []*view.View{w, view.New(x)} {
		is(t, other, 5, of(1))
		isNot(t, other, firstNew, api.ErrNone)
		did(t, other, nil, nil, 0)
	}
	if o, err := x.At(1, 5); err != api.OK || !value.Same(o, of(1)) || x.Last() != 1 || x.Changed(5) != 1 || len(x.Oops(1)) != 1 {
		t.Error("the table has", o, err, x.Last(), x.Changed(5), x.Oops(1))
	}
	makes(t, w, a, firstNew, api.OK)
	is(t, v, firstNew, c)
	is(t, w, firstNew, a)
}

// DOC.md, rules 4 and 5: what is written into an object that was handed in, or into an answer, is seen by nobody.
func TestOwnMemory(t *testing.T) {
	full := func() api.Obj {
		return api.Obj{Class: 3, Slots: []api.Val{{K: api.Int, N: 1}, {K: api.True}}, Bytes: []byte("xy")}
	}
	spoil := func(o api.Obj) {
		o.Slots[0], o.Bytes[0] = api.Val{K: api.Nil}, '?'
		_, _ = append(o.Slots[:1], api.Val{K: api.False}), append(o.Bytes[:1], '!')
	}
	x := table.New()
	x.Apply(value.Record{Commit: 1, Changes: []value.Change{{Oop: 5, Obj: full()}, {Oop: 6, Obj: full()}}})
	v := view.New(x)
	o, _ := v.Peek(6)
	spoil(o)
	given := full()
	put(t, v, 5, given, api.OK)
	makes(t, v, given, firstNew, api.OK)
	spoil(given)
	w := v.Copy()
	for _, oop := range []int64{5, 6, firstNew} {
		o, _ = v.Get(oop)
		spoil(o)
	}
	spoil(v.Changed()[0].Obj)
	for _, l := range [][]int64{v.Reads(), v.Writes(), v.News()} {
		l[0] = 99
		_ = append(l[:0], 98)
	}
	for _, oop := range []int64{5, 6, firstNew} {
		is(t, v, oop, full())
		is(t, w, oop, full())
	}
	did(t, v, []int64{5, 6}, []int64{5}, 1)
	changed(t, v, value.Change{Oop: 5, Obj: full()})
	if o, err := x.At(1, 6); err != api.OK || !value.Same(o, full()) {
		t.Error("the table has", o, err)
	}
}
