package table_test

import (
	"math"
	"slices"
	"testing"

	"lapidary/api"
	"lapidary/table"
	"lapidary/value"
)

// objects of which no two are alike
var (
	a = api.Obj{Class: 1}
	b = api.Obj{Class: 2, Slots: []api.Val{{K: api.Int, N: -7}, {K: api.Ref, N: api.MaxOops}}}
	c = api.Obj{Class: api.MaxOops, Bytes: []byte("c")}
)

func put(oop int64, o api.Obj) value.Change { return value.Change{Oop: oop, Obj: o} }

func gone(oop int64) value.Change { return value.Change{Oop: oop, Gone: true} }

func apply(t *testing.T, x *table.Table, commit int64, changes ...value.Change) {
	t.Helper()
	if err := x.Apply(value.Record{Commit: commit, Changes: changes}); err != api.OK {
		t.Fatalf("Apply of %d: %v", commit, err)
	}
}

func forget(t *testing.T, x *table.Table, commit int64) {
	t.Helper()
	if err := x.Forget(commit); err != api.OK {
		t.Fatalf("Forget(%d): %v", commit, err)
	}
}

// is asks for an object behind a commit.
func is(t *testing.T, x *table.Table, commit, oop int64, want api.Obj) {
	t.Helper()
	if o, err := x.At(commit, oop); err != api.OK || !value.Same(o, want) {
		t.Errorf("At(%d, %d) = %v %v, want %v", commit, oop, o, err, want)
	}
}

// isNot asks for an error of At, and nothing else.
func isNot(t *testing.T, x *table.Table, commit, oop int64, want api.Errno) {
	t.Helper()
	if o, err := x.At(commit, oop); err != want || !value.Same(o, api.Obj{}) {
		t.Errorf("At(%d, %d) = %v %v, want nothing and %v", commit, oop, o, err, want)
	}
}

func list(t *testing.T, what string, got []int64, want ...int64) {
	t.Helper()
	if !slices.Equal(got, want) {
		t.Errorf("%s: %v, want %v", what, got, want)
	}
}

// ends asks for the first and the last commit.
func ends(t *testing.T, x *table.Table, first, last int64) {
	t.Helper()
	if x.First() != first || x.Last() != last {
		t.Errorf("commits from %d to %d, want from %d to %d", x.First(), x.Last(), first, last)
	}
}

// sameRecord tells whether two records are alike in all.
func sameRecord(r, s value.Record) bool {
	return r.Commit == s.Commit && slices.EqualFunc(r.Changes, s.Changes, func(x, y value.Change) bool {
		return x.Oop == y.Oop && x.Gone == y.Gone && value.Same(x.Obj, y.Obj)
	})
}

// P11.1: a new table, and one that New did not make.
func TestNew(t *testing.T) {
	for _, x := range []*table.Table{table.New(), {}, table.New().Copy()} {
		ends(t, x, 0, 0)
		isNot(t, x, 0, 1, api.ErrNone)
		isNot(t, x, 1, 1, api.ErrRange)
		list(t, "Oops(0)", x.Oops(0))
		list(t, "Free(3)", x.Free(3), 1, 2, 3)
		if x.Changed(1) != 0 || !sameRecord(x.All(), value.Record{}) {
			t.Error("a new table has", x.Changed(1), x.All())
		}
		if err := x.Forget(0); err != api.OK {
			t.Error("Forget(0)", err)
		}
		apply(t, x, 1, put(1, a))
		is(t, x, 1, 1, a)
		isNot(t, x, 0, 1, api.ErrNone)
		ends(t, x, 0, 1)
	}
}

// P11.1: calls of nil.
func TestNil(t *testing.T) {
	var x *table.Table
	if err := x.Apply(value.Record{Commit: 1}); err != api.ErrNil {
		t.Error("Apply", err)
	}
	if err := x.Apply(value.Record{}); err != api.ErrNil {
		t.Error("Apply of what can not be", err)
	}
	if err := x.Forget(0); err != api.ErrNil {
		t.Error("Forget", err)
	}
	isNot(t, x, 0, 1, api.ErrNil)
	isNot(t, x, -1, -1, api.ErrNil)
	ends(t, x, 0, 0)
	list(t, "Oops", x.Oops(0))
	list(t, "Free", x.Free(1))
	if x.Changed(1) != 0 || x.Copy() != nil || !sameRecord(x.All(), value.Record{}) {
		t.Error("nil has", x.Changed(1), x.Copy(), x.All())
	}
}

// P11.1, P11.2, P11.3: the chapter's example.
func TestExample(t *testing.T) {
	x := table.New()
	apply(t, x, 1, put(5, a))
	apply(t, x, 2, put(5, b))
	is(t, x, 1, 5, a)
	is(t, x, 2, 5, b)
	forget(t, x, 2)
	isNot(t, x, 1, 5, api.ErrRange)
	is(t, x, 2, 5, b)
}

// P11.1: what is refused, by which error, and that nothing is changed by it.
func TestApplyRefuses(t *testing.T) {
	x := table.New()
	apply(t, x, 4, put(5, a), put(7, b))
	rows := []struct {
		r    value.Record
		want api.Errno
	}{
		{value.Record{}, api.ErrArg},
		{value.Record{Commit: -1}, api.ErrArg},
		{value.Record{Commit: math.MinInt64}, api.ErrArg},
		{value.Record{Commit: api.MaxCommit + 1}, api.ErrArg},
		{value.Record{Commit: math.MaxInt64}, api.ErrArg},
		{value.Record{Commit: 5, Changes: []value.Change{put(0, c)}}, api.ErrArg},
		{value.Record{Commit: 5, Changes: []value.Change{put(-1, c)}}, api.ErrArg},
		{value.Record{Commit: 5, Changes: []value.Change{put(api.MaxOops+1, c)}}, api.ErrArg},
		{value.Record{Commit: 5, Changes: []value.Change{put(7, c), put(5, c)}}, api.ErrArg},
		{value.Record{Commit: 5, Changes: []value.Change{put(5, c), put(5, c)}}, api.ErrArg},
		{value.Record{Commit: 5, Changes: []value.Change{put(5, c), put(7, api.Obj{})}}, api.ErrArg},
		{value.Record{Commit: 5, Changes: []value.Change{put(5, c), {Oop: 7, Gone: true, Obj: a}}}, api.ErrArg},
		{value.Record{Commit: 5, Changes: []value.Change{put(5, api.Obj{Class: 1, Slots: []api.Val{{K: api.Block}}})}}, api.ErrArg},
		{value.Record{Commit: 5, Changes: []value.Change{put(5, api.Obj{Class: 1, Bytes: make([]byte, api.MaxBytes+1)})}}, api.ErrArg},
		{value.Record{Commit: 4}, api.ErrState},
		{value.Record{Commit: 1}, api.ErrState},
		{value.Record{Commit: 4, Changes: []value.Change{put(5, c)}}, api.ErrState},
		{value.Record{Commit: 3, Changes: []value.Change{put(6, c), gone(7)}}, api.ErrState},
		{value.Record{Commit: 4, Changes: []value.Change{put(5, api.Obj{})}}, api.ErrArg}, // the one that is named first
		{value.Record{Commit: 1, Changes: []value.Change{put(0, c)}}, api.ErrArg},
	}
	for _, row := range rows {
		if err := x.Apply(row.r); err != row.want {
			t.Errorf("Apply(%v) = %v, want %v", row.r, err, row.want)
		}
	}
	ends(t, x, 0, 4)
	is(t, x, 4, 5, a)
	is(t, x, 4, 7, b)
	list(t, "Oops(4)", x.Oops(4), 5, 7)
	if x.Changed(5) != 4 || x.Changed(7) != 4 || x.Changed(6) != 0 {
		t.Error("Changed", x.Changed(5), x.Changed(7), x.Changed(6))
	}
}

// P11.1: commits between, without changes, and the greatest one.
func TestBetween(t *testing.T) {
	x := table.New()
	apply(t, x, 3, put(5, a))
	apply(t, x, 7, put(5, b), put(6, c))
	apply(t, x, 9)
	ends(t, x, 0, 9)
	for commit := range int64(3) {
		isNot(t, x, commit, 5, api.ErrNone)
		list(t, "Oops", x.Oops(commit))
	}
	for commit := int64(3); commit < 7; commit++ {
		is(t, x, commit, 5, a)
		isNot(t, x, commit, 6, api.ErrNone)
		list(t, "Oops", x.Oops(commit), 5)
	}
	for commit := int64(7); commit <= 9; commit++ {
		is(t, x, commit, 5, b)
		is(t, x, commit, 6, c)
		list(t, "Oops", x.Oops(commit), 5, 6)
	}
	isNot(t, x, 10, 5, api.ErrRange)
	apply(t, x, api.MaxCommit, gone(6))
	is(t, x, api.MaxCommit-1, 6, c)
	isNot(t, x, api.MaxCommit, 6, api.ErrNone)
	is(t, x, api.MaxCommit, 5, b)
	if err := x.Apply(value.Record{Commit: api.MaxCommit}); err != api.ErrState {
		t.Error("Apply behind the greatest commit", err)
	}
	forget(t, x, 1<<39)
	is(t, x, 1<<39, 6, c)
	isNot(t, x, 1<<39-1, 6, api.ErrRange)
}

// P11.2: commits that may not be asked, and oops that nothing is.
func TestRange(t *testing.T) {
	x := table.New()
	apply(t, x, 1, put(1, a), put(api.MaxOops, b))
	apply(t, x, 2, put(1, c))
	apply(t, x, 4, put(1, a))
	forget(t, x, 2)
	for _, commit := range []int64{math.MinInt64, -1, 0, 1, 5, api.MaxCommit, math.MaxInt64} {
		isNot(t, x, commit, 1, api.ErrRange)
		isNot(t, x, commit, 0, api.ErrRange)
		list(t, "Oops", x.Oops(commit))
	}
	for _, oop := range []int64{math.MinInt64, -1, 0, 2, api.MaxOops - 1, api.MaxOops + 1, math.MaxInt64} {
		isNot(t, x, 2, oop, api.ErrNone)
		isNot(t, x, 4, oop, api.ErrNone)
		if x.Changed(oop) != 0 {
			t.Errorf("Changed(%d) = %d", oop, x.Changed(oop))
		}
	}
	is(t, x, 4, api.MaxOops, b)
	list(t, "Oops(3)", x.Oops(3), 1, api.MaxOops)
}

// P11.2, P11.3: an object that is let go, comes again, and is let go though it is not there.
func TestGone(t *testing.T) {
	x := table.New()
	apply(t, x, 1, put(2, a), put(3, b))
	apply(t, x, 2, gone(2))
	is(t, x, 1, 2, a)
	isNot(t, x, 2, 2, api.ErrNone)
	list(t, "Oops(1)", x.Oops(1), 2, 3)
	list(t, "Oops(2)", x.Oops(2), 3)
	list(t, "Free(3)", x.Free(3), 1, 4, 5) // 2 was an object behind commit 1
	apply(t, x, 3, gone(2), gone(9))
	if x.Changed(2) != 3 || x.Changed(9) != 3 || x.Changed(3) != 1 {
		t.Error("Changed", x.Changed(2), x.Changed(9), x.Changed(3))
	}
	isNot(t, x, 3, 9, api.ErrNone)
	list(t, "Free(9)", x.Free(9), 1, 4, 5, 6, 7, 8, 9, 10, 11)
	apply(t, x, 4, put(2, c))
	is(t, x, 1, 2, a)
	isNot(t, x, 3, 2, api.ErrNone)
	is(t, x, 4, 2, c)
	apply(t, x, 5, gone(2))
	forget(t, x, 3)
	list(t, "Free(2)", x.Free(2), 1, 4) // it was one behind commit 4
	isNot(t, x, 3, 2, api.ErrNone)
	is(t, x, 4, 2, c)
	forget(t, x, 4)
	list(t, "Free(2)", x.Free(2), 1, 4)
	is(t, x, 4, 2, c)
	forget(t, x, 5)
	list(t, "Free(2)", x.Free(2), 1, 2)
	if x.Changed(2) != 5 || x.Changed(9) != 3 || x.Changed(3) != 1 {
		t.Error("Changed of what is forgotten", x.Changed(2), x.Changed(9), x.Changed(3))
	}
	list(t, "Oops(5)", x.Oops(5), 3)
}

// P11.3: what may be forgotten, and what stays then.
func TestForget(t *testing.T) {
	x := table.New()
	apply(t, x, 2, put(5, a), put(6, a))
	apply(t, x, 4, put(5, b))
	apply(t, x, 8, put(5, c), put(7, c))
	for _, commit := range []int64{math.MinInt64, -1, 9, math.MaxInt64} {
		if err := x.Forget(commit); err != api.ErrRange {
			t.Errorf("Forget(%d) = %v", commit, err)
		}
	}
	ends(t, x, 0, 8)
	is(t, x, 2, 5, a)
	forget(t, x, 0)
	is(t, x, 3, 5, a)
	forget(t, x, 5) // no commit that was applied
	ends(t, x, 5, 8)
	for _, commit := range []int64{0, 2, 4} {
		isNot(t, x, commit, 5, api.ErrRange)
		if err := x.Forget(commit); err != api.ErrRange {
			t.Errorf("Forget(%d) = %v", commit, err)
		}
	}
	for range 2 {
		is(t, x, 5, 5, b)
		is(t, x, 7, 6, a)
		is(t, x, 8, 5, c)
		list(t, "Oops(5)", x.Oops(5), 5, 6)
		list(t, "Oops(8)", x.Oops(8), 5, 6, 7)
		forget(t, x, 5) // once more
	}
	forget(t, x, 8)
	ends(t, x, 8, 8)
	is(t, x, 8, 6, a)
	apply(t, x, 9, gone(6))
	is(t, x, 8, 6, a)
	isNot(t, x, 9, 6, api.ErrNone)
	ends(t, x, 8, 9)
}

// P11.3: how many oops are asked for, and how many are left.
func TestFree(t *testing.T) {
	x := table.New()
	if l := x.Free(math.MaxInt); len(l) != api.MaxOops || l[0] != 1 || l[api.MaxOops-1] != api.MaxOops {
		t.Error("of a new table there are free", len(l))
	}
	var all []value.Change
	for oop := int64(1); oop <= api.MaxOops; oop++ {
		if oop != 1 && oop != 77 && oop != api.MaxOops {
			all = append(all, put(oop, a))
		}
	}
	apply(t, x, 1, all...)
	for _, n := range []int{0, -1, math.MinInt} {
		list(t, "Free of none", x.Free(n))
	}
	list(t, "Free(1)", x.Free(1), 1)
	list(t, "Free(2)", x.Free(2), 1, 77)
	for _, n := range []int{3, 4, api.MaxOops, api.MaxOops + 1, math.MaxInt} {
		list(t, "Free of more", x.Free(n), 1, 77, api.MaxOops)
	}
	apply(t, x, 2, put(1, b), put(77, b), put(api.MaxOops, b))
	list(t, "Free of a full table", x.Free(9))
	if l := x.Oops(2); len(l) != api.MaxOops || l[0] != 1 || l[api.MaxOops-1] != api.MaxOops {
		t.Error("a full table has", len(l))
	}
	apply(t, x, 3, gone(5))
	list(t, "Free behind a version that is kept", x.Free(9))
	forget(t, x, 2)
	list(t, "Free behind a version that is kept", x.Free(9))
	forget(t, x, 3)
	list(t, "Free(9)", x.Free(9), 5)
}

// P11.3, P11.5: All makes a table with the same behind the last commit, and with nothing ahead.
func TestAll(t *testing.T) {
	x := table.New()
	apply(t, x, 2, put(5, a), put(9, b))
	apply(t, x, 3, put(2, c), put(5, b), gone(9))
	want := value.Record{Commit: 3, Changes: []value.Change{put(2, c), put(5, b)}}
	if r := x.All(); !sameRecord(r, want) {
		t.Error("All", r)
	}
	forget(t, x, 3)
	if r := x.All(); !sameRecord(r, want) {
		t.Error("All behind Forget", r)
	}
	y := table.New()
	if err := y.Apply(x.All()); err != api.OK {
		t.Fatal("Apply of All", err)
	}
	ends(t, y, 0, 3)
	list(t, "Oops(3)", y.Oops(3), 2, 5)
	list(t, "Oops(2)", y.Oops(2))
	is(t, y, 3, 2, c)
	is(t, y, 3, 5, b)
	apply(t, x, 4, gone(2), gone(5))
	if r := x.All(); !sameRecord(r, value.Record{Commit: 4}) {
		t.Error("All of no objects", r)
	}
	if err := table.New().Apply(x.All()); err != api.OK {
		t.Error("Apply of All of no objects", err)
	}
}

// P11.3: a copy is as the table is, and both go on alone, from however many versions on.
func TestCopy(t *testing.T) {
	for versions := int64(1); versions <= 20; versions++ {
		x := table.New()
		for commit := int64(1); commit <= versions; commit++ {
			apply(t, x, commit, put(5, api.Obj{Class: commit}))
		}
		y := x.Copy()
		z := y.Copy()
		apply(t, x, versions+1, put(5, a))
		apply(t, y, versions+1, put(5, b), put(6, b))
		apply(t, z, versions+2, gone(5))
		is(t, x, versions+1, 5, a)
		is(t, y, versions+1, 5, b)
		is(t, z, versions+1, 5, api.Obj{Class: versions})
		isNot(t, z, versions+2, 5, api.ErrNone)
		isNot(t, x, versions+1, 6, api.ErrNone)
		forget(t, x, versions+1)
		apply(t, x, versions+2, put(5, c))
		ends(t, x, versions+1, versions+2)
		ends(t, y, 0, versions+1)
		for commit := int64(1); commit <= versions; commit++ {
			isNot(t, x, commit, 5, api.ErrRange)
			is(t, y, commit, 5, api.Obj{Class: commit})
			is(t, z, commit, 5, api.Obj{Class: commit})
		}
		is(t, y, versions+1, 5, b)
		if x.Changed(6) != 0 || y.Changed(6) != versions+1 || z.Changed(5) != versions+2 {
			t.Error("Changed", x.Changed(6), y.Changed(6), z.Changed(5))
		}
	}
}

// DOC.md, rules 4 and 5: what is written into a record that was handed in, or into an answer, is seen by nobody.
func TestOwnMemory(t *testing.T) {
	x := table.New()
	full := func() api.Obj {
		return api.Obj{Class: 3, Slots: []api.Val{{K: api.Int, N: 1}, {K: api.True}}, Bytes: []byte("xy")}
	}
	spoil := func(o api.Obj) {
		o.Slots[0], o.Bytes[0] = api.Val{K: api.Nil}, '?'
		_, _ = append(o.Slots[:1], api.Val{K: api.False}), append(o.Bytes[:1], '!')
	}
	r := value.Record{Commit: 1, Changes: []value.Change{put(5, full()), put(6, a)}}
	apply(t, x, r.Commit, r.Changes...)
	spoil(r.Changes[0].Obj)
	r.Changes[1] = gone(6)
	is(t, x, 1, 5, full())
	is(t, x, 1, 6, a)
	y := x.Copy()
	o, _ := x.At(1, 5)
	spoil(o)
	spoil(x.All().Changes[0].Obj)
	for _, l := range [][]int64{x.Oops(1), x.Free(2)} {
		l[0] = 99
		_ = append(l[:1], 99)
	}
	all := x.All().Changes
	all[1] = gone(77)
	for _, z := range []*table.Table{x, y} {
		is(t, z, 1, 5, full())
		list(t, "Oops(1)", z.Oops(1), 5, 6)
		list(t, "Free(2)", z.Free(2), 1, 2)
		if r := z.All(); !sameRecord(r, value.Record{Commit: 1, Changes: []value.Change{put(5, full()), put(6, a)}}) {
			t.Error("All", r)
		}
	}
}
