package rc_test

import (
	"math"
	"math/rand"
	"slices"
	"testing"

	"lapidary/api"
	"lapidary/class"
	"lapidary/kernel"
	"lapidary/rc"
	"lapidary/run"
	"lapidary/table"
	"lapidary/value"
	"lapidary/view"
)

func integer(n int64) api.Val { return api.Val{K: api.Int, N: n} }

func slots(c int64, list ...api.Val) api.Obj { return api.Obj{Class: c, Slots: list} }

func counter(n int64) api.Obj { return slots(class.Counter, integer(n)) }

func bag(list ...int64) api.Obj {
	o := slots(class.Bag)
	for _, n := range list {
		o.Slots = append(o.Slots, integer(n))
	}
	return o
}

func plus(n int64) run.Op { return run.Op{Add: true, Value: integer(n)} }

func minus(n int64) run.Op { return run.Op{Value: integer(n)} }

func add(x api.Val) run.Op { return run.Op{Add: true, Value: x} }

func remove(x api.Val) run.Op { return run.Op{Value: x} }

// replays asks for what comes of ops; that nothing of the object or the ops is changed, and that the answer is in memory of its own.
func replays(t *testing.T, o api.Obj, want api.Obj, ops ...run.Op) {
	t.Helper()
	old, oldOps := value.Copy(o), slices.Clone(ops)
	got, err := rc.Replay(o, ops)
	if err != api.OK || !value.Same(got, want) {
		t.Errorf("Replay(%v, %v) = %v %v, want %v", o, ops, got, err, want)
		return
	}
	for i := range got.Slots {
		got.Slots[i].N++
	}
	for i := range got.Bytes {
		got.Bytes[i]++
	}
	_ = append(got.Slots, integer(1))
	if !value.Same(o, old) || !slices.Equal(ops, oldOps) {
		t.Errorf("Replay(%v, %v) has changed what was given", old, oldOps)
	}
}

func clashes(t *testing.T, o api.Obj, ops ...run.Op) {
	t.Helper()
	old := value.Copy(o)
	got, err := rc.Replay(o, ops)
	if err != api.ErrClash || !value.Same(got, api.Obj{}) || got.Slots != nil || got.Bytes != nil {
		t.Errorf("Replay(%v, %v) = %v %v, want ErrClash", o, ops, got, err)
	}
	if !value.Same(o, old) {
		t.Errorf("Replay(%v, %v) has changed what was given", old, ops)
	}
}

// P16.1: a Counter is more by each op, at the edges of small numbers too, one op behind the other.
func TestReplayCounter(t *testing.T) {
	const top, low = api.Small - 1, -api.Small
	replays(t, counter(5), counter(7), plus(3), plus(-1))
	replays(t, counter(5), counter(5))
	replays(t, counter(0), counter(0), plus(0))
	replays(t, counter(top), counter(top), plus(0))
	replays(t, counter(top-1), counter(top), plus(1))
	replays(t, counter(low+1), counter(low), plus(-1))
	replays(t, counter(low), counter(top), plus(top), plus(top), plus(1))
	replays(t, counter(-1), counter(top), plus(api.Small)) // as of decrement: -Small
	replays(t, api.Obj{Class: class.Counter, Slots: []api.Val{integer(1), {K: api.True}}, Bytes: []byte("x")}, api.Obj{Class: class.Counter, Slots: []api.Val{integer(3), {K: api.True}}, Bytes: []byte("x")}, plus(2))
	clashes(t, counter(top), plus(1))
	clashes(t, counter(low), plus(-1))
	clashes(t, counter(top), plus(1), plus(-1))
	clashes(t, counter(0), plus(3), plus(api.Small))
	clashes(t, counter(1), plus(api.Small))
	clashes(t, counter(top), plus(math.MaxInt64))
	clashes(t, counter(low), plus(math.MinInt64))
	clashes(t, counter(math.MaxInt64), plus(math.MaxInt64))
	clashes(t, counter(math.MinInt64), plus(math.MinInt64))
	clashes(t, counter(math.MinInt64), plus(-1))
	clashes(t, counter(math.MaxInt64), plus(1))
	replays(t, counter(math.MaxInt64), counter(7), plus(7-math.MaxInt64))
	replays(t, counter(math.MinInt64), counter(-1), plus(math.MaxInt64))
}

// P16.1: a Counter without a number, and ops that are none of a Counter.
func TestReplayNoCounter(t *testing.T) {
	for _, o := range []api.Obj{slots(class.Counter), slots(class.Counter, api.Val{}), slots(class.Counter, api.Val{K: api.True}), slots(class.Counter, api.Val{K: api.Ref, N: 5}), slots(class.Counter, api.Val{K: -1}), slots(class.Counter, api.Val{}, integer(3))} {
		clashes(t, o, plus(1))
		clashes(t, o, plus(0))
		replays(t, o, o)
	}
	clashes(t, counter(5), minus(1))
	clashes(t, counter(5), minus(5))
	clashes(t, counter(5), plus(1), minus(0))
	for _, x := range []api.Val{{}, {K: api.False}, {K: api.True, N: 3}, {K: api.Ref, N: 3}, {K: api.Block, N: 3}, {K: -1}, {K: math.MaxInt}} {
		clashes(t, counter(5), add(x))
		clashes(t, counter(5), remove(x))
		clashes(t, counter(5), plus(1), add(x))
	}
}

// P16.1: a Bag's values stand in their order, by kind, then N; the first one that is the value goes.
func TestReplayBag(t *testing.T) {
	no, yes := api.Val{K: api.False}, api.Val{K: api.True}
	replays(t, bag(), bag())
	replays(t, bag(), bag(3), plus(3))
	replays(t, bag(1, 3), bag(1, 2, 3), plus(2))
	replays(t, bag(1, 3), bag(0, 1, 3), plus(0))
	replays(t, bag(1, 3), bag(1, 3, 4), plus(4))
	replays(t, bag(1, 3), bag(1, 3, 3), plus(3))
	replays(t, bag(1, 1), bag(-5, 1, 1), plus(-5))
	replays(t, bag(1, 3), slots(class.Bag, api.Val{}, no, yes, integer(1), integer(3)), add(yes), add(api.Val{}), add(no))
	replays(t, slots(class.Bag, api.Val{}, yes), slots(class.Bag, api.Val{}, no, yes, integer(-9)), plus(-9), add(no))
	replays(t, bag(1, 2, 2, 3), bag(1, 2, 3), minus(2))
	replays(t, bag(1, 2, 2, 3), bag(1, 3), minus(2), minus(2))
	replays(t, bag(7), bag(), minus(7))
	replays(t, bag(7), bag(8), minus(7), plus(8))
	replays(t, bag(7), bag(7), plus(8), minus(8))
	replays(t, slots(class.Bag, api.Val{}, no), slots(class.Bag, no), remove(api.Val{}))
	replays(t, bag(5, 1), bag(2, 5, 1), plus(2)) // ahead of the first one that is greater, whatever follows
	replays(t, bag(1, 5, 2), bag(1, 3, 5, 2), plus(3))
	replays(t, slots(class.Bag, api.Val{K: api.Ref, N: 9}), slots(class.Bag, integer(1), api.Val{K: api.Ref, N: 9}), plus(1))
	replays(t, slots(class.Bag, api.Val{K: api.Ref, N: 9}), bag(), remove(api.Val{K: api.Ref, N: 9}))
	replays(t, api.Obj{Class: class.Bag, Bytes: []byte("x")}, api.Obj{Class: class.Bag, Slots: []api.Val{integer(1)}, Bytes: []byte("x")}, plus(1))
	clashes(t, bag(1, 2), minus(3))
	clashes(t, bag(), minus(0))
	clashes(t, bag(), remove(api.Val{}))
	clashes(t, bag(0), remove(api.Val{}))
	clashes(t, bag(7), minus(7), minus(7))
	clashes(t, bag(7), minus(8), plus(8))
	for _, k := range []int{api.Ref, api.Block, 6, -1, math.MinInt, math.MaxInt} {
		clashes(t, bag(7), add(api.Val{K: k, N: 7}))
		clashes(t, bag(7), remove(api.Val{K: k, N: 7}))
	}
}

// P16.1: a Bag with MaxSlots values.
func TestReplayFullBag(t *testing.T) {
	full := bag()
	for i := range int64(api.MaxSlots) {
		full.Slots = append(full.Slots, integer(i))
	}
	clashes(t, full, plus(5))
	clashes(t, full, plus(5), minus(5))
	replays(t, full, full, minus(5), plus(5))
	replays(t, full, full)
	less := value.Copy(full)
	less.Slots = less.Slots[:api.MaxSlots-1]
	replays(t, less, full, plus(api.MaxSlots-1))
	clashes(t, less, plus(1), plus(2))
	over := value.Copy(full)
	over.Slots = append(over.Slots, integer(900))
	clashes(t, over, plus(5))
	replays(t, over, full, minus(900))
}

// P16.1: objects of other classes, with and without ops.
func TestReplayOthers(t *testing.T) {
	for _, c := range []int64{math.MinInt64, -1, 0, 1, 2, 6, 10, 12, 15, 16, 4096, 8192, math.MaxInt64} {
		for _, o := range []api.Obj{{Class: c}, slots(c, integer(5)), slots(c, integer(5), integer(6))} {
			clashes(t, o)
			clashes(t, o, plus(1))
			clashes(t, o, minus(5))
		}
	}
	clashes(t, api.Obj{})
	if _, err := rc.Replay(counter(5), nil); err != api.OK {
		t.Error("Replay of nil ops", err)
	}
}

// P16.1: whatever the Oop of an op, it is done.
func TestReplayAnyOop(t *testing.T) {
	ops := []run.Op{{Oop: 5, Add: true, Value: integer(1)}, {Oop: -7, Add: true, Value: integer(2)}, {Oop: math.MaxInt64, Add: true, Value: integer(3)}}
	replays(t, counter(0), counter(6), ops...)
	replays(t, bag(), bag(1, 2, 3), ops...)
}

// P16.2: each oop once, rising; nothing of the ops is changed.
func TestTouched(t *testing.T) {
	for _, c := range []struct{ oops, want []int64 }{
		{nil, nil},
		{[]int64{7}, []int64{7}},
		{[]int64{7, 3, 7}, []int64{3, 7}},
		{[]int64{1, 2, 3}, []int64{1, 2, 3}},
		{[]int64{3, 3, 3}, []int64{3}},
		{[]int64{0, -5, math.MaxInt64, 9000, math.MinInt64, 0}, []int64{math.MinInt64, -5, 0, 9000, math.MaxInt64}},
	} {
		var ops []run.Op
		for _, oop := range c.oops {
			ops = append(ops, run.Op{Oop: oop})
		}
		old := slices.Clone(ops)
		got := rc.Touched(ops)
		if !slices.Equal(got, c.want) {
			t.Errorf("Touched(%v) = %v, want %v", c.oops, got, c.want)
		}
		clear(got)
		if !slices.Equal(ops, old) || !slices.Equal(rc.Touched(ops), c.want) {
			t.Errorf("Touched(%v) has changed them", c.oops)
		}
	}
}

// things is a table with a Counter, two Bags and an Array, of which a second commit changed some.
func things(t *testing.T) *table.Table {
	t.Helper()
	x := table.New()
	for _, r := range []value.Record{
		{Commit: 1, Changes: []value.Change{{Oop: 3, Obj: counter(1)}, {Oop: 5, Obj: bag(1)}, {Oop: 7, Obj: bag(2)}, {Oop: 9, Obj: slots(class.Array)}, {Oop: 11, Obj: counter(1)}}},
		{Commit: 4, Changes: []value.Change{{Oop: 3, Obj: counter(10)}, {Oop: 7, Obj: bag(2, 4)}, {Oop: 11, Gone: true}}},
	} {
		if err := x.Apply(r); err != api.OK {
			t.Fatal("Apply", err)
		}
	}
	return x
}

func on(oop int64, op run.Op) run.Op {
	op.Oop = oop
	return op
}

// P16.2: a change for each object, rising, of how it is behind the last commit; the table is as it was.
func TestAll(t *testing.T) {
	x := things(t)
	before := x.All()
	ops := []run.Op{on(7, plus(3)), on(3, plus(5)), on(5, minus(1)), on(7, minus(4)), on(3, plus(-2)), on(7, plus(9))}
	old := slices.Clone(ops)
	want := []value.Change{{Oop: 3, Obj: counter(13)}, {Oop: 5, Obj: bag()}, {Oop: 7, Obj: bag(2, 3, 9)}}
	for range 2 {
		got, oop, err := rc.All(x, ops)
		if err != api.OK || oop != 0 || !slices.EqualFunc(got, want, sameChange) {
			t.Errorf("All = %v %d %v, want %v", got, oop, err, want)
		}
		for i := range got {
			_ = append(got[i].Obj.Slots, integer(99))
			clear(got[i].Obj.Slots)
		}
	}
	if !slices.Equal(ops, old) || !slices.EqualFunc(x.All().Changes, before.Changes, sameChange) || x.Last() != 4 {
		t.Error("All has changed what was given")
	}
	if got, oop, err := rc.All(x, nil); len(got) != 0 || oop != 0 || err != api.OK {
		t.Error("All of no ops", got, oop, err)
	}
}

func sameChange(a, b value.Change) bool {
	return a.Oop == b.Oop && a.Gone == b.Gone && value.Same(a.Obj, b.Obj)
}

// P16.2: the first object that errs, rising, whatever comes of the others; those that are not there.
func TestAllClashes(t *testing.T) {
	x := things(t)
	for _, c := range []struct {
		want int64
		ops  []run.Op
	}{
		{5, []run.Op{on(5, minus(9))}},
		{5, []run.Op{on(3, plus(1)), on(5, minus(9)), on(7, plus(1))}},
		{5, []run.Op{on(7, minus(9)), on(5, minus(9)), on(3, plus(1))}},
		{3, []run.Op{on(7, minus(9)), on(3, minus(1))}},
		{9, []run.Op{on(9, plus(1)), on(3, plus(1))}},
		{11, []run.Op{on(11, plus(1))}},
		{4, []run.Op{on(4, plus(1)), on(9, plus(1))}},
		{4000, []run.Op{on(4000, plus(1)), on(3, plus(1))}},
		{0, []run.Op{on(0, plus(1)), on(3, plus(1))}},
		{-5, []run.Op{on(9, plus(1)), on(-5, plus(1))}},
		{math.MinInt64, []run.Op{on(math.MaxInt64, plus(1)), on(math.MinInt64, plus(1))}},
		{api.MaxOops + 1, []run.Op{on(api.MaxOops+1, plus(1))}},
		{3, []run.Op{on(3, plus(api.Small-1))}},
	} {
		got, oop, err := rc.All(x, c.ops)
		if len(got) != 0 || oop != c.want || err != api.ErrClash {
			t.Errorf("All(%v) = %v %d %v, want %d", c.ops, got, oop, err, c.want)
		}
	}
	for _, ops := range [][]run.Op{nil, {on(3, plus(1))}} {
		if got, oop, err := rc.All(nil, ops); len(got) != 0 || oop != 0 || err != api.ErrNil {
			t.Error("All of no table", got, oop, err)
		}
	}
	for _, x := range []*table.Table{table.New(), {}} {
		if got, oop, err := rc.All(x, []run.Op{on(3, plus(1))}); len(got) != 0 || oop != 3 || err != api.ErrClash {
			t.Error("All of an empty table", got, oop, err)
		}
	}
}

// P16.3, P16.4: in any order that goes the same comes of it; a Counter is as much more as all together, a Bag has what was added more and what was removed less.
func TestAnyOrder(t *testing.T) {
	random := rand.New(rand.NewSource(3))
	went := 0
	for range 3000 {
		var ops []run.Op
		sum, times := int64(0), map[int64]int{}
		counts := random.Intn(2) == 0
		for range random.Intn(8) {
			op := plus(random.Int63n(4))
			op.Add = counts || random.Intn(3) > 0
			if op.Add {
				times[op.Value.N]++
			} else {
				times[op.Value.N]--
			}
			sum += op.Value.N
			ops = append(ops, op)
		}
		o := counter(5)
		if !counts {
			o = bag(0, 1, 1, 2)
			for _, x := range o.Slots {
				times[x.N]++
			}
		}
		first, err := rc.Replay(o, ops)
		if err != api.OK {
			continue
		}
		went++
		if counts && first.Slots[0].N != 5+sum {
			t.Fatalf("Replay(%v, %v) = %v", o, ops, first)
		}
		for n, many := range times {
			if got := countOf(first, n); !counts && got != many {
				t.Fatalf("Replay(%v, %v) = %v: %d is there %d times", o, ops, first, n, got)
			}
		}
		if !counts && !slices.IsSortedFunc(first.Slots, func(a, b api.Val) int { return int(a.N - b.N) }) {
			t.Fatalf("Replay(%v, %v) = %v", o, ops, first)
		}
		for range 5 {
			random.Shuffle(len(ops), func(i, j int) { ops[i], ops[j] = ops[j], ops[i] })
			if got, err := rc.Replay(o, ops); err == api.OK && !value.Same(got, first) {
				t.Fatalf("Replay(%v, %v) = %v, in another order %v", o, ops, got, first)
			}
		}
	}
	if went < 1000 {
		t.Error("only", went, "went")
	}
}

func countOf(o api.Obj, n int64) int {
	count := 0
	for _, x := range o.Slots {
		if x == integer(n) {
			count++
		}
	}
	return count
}

// P16.3: what runs of several views did to Counters and Bags is there, one behind the other, as if one had done it all.
func TestReplayOfRuns(t *testing.T) {
	first, err := kernel.Build()
	if err != api.OK {
		t.Fatal("Build", err)
	}
	x := table.New()
	symbol := func(s string) api.Obj { return api.Obj{Class: class.Symbol, Bytes: []byte(s)} }
	ref := func(oop int64) api.Val { return api.Val{K: api.Ref, N: oop} }
	x.Apply(first)
	x.Apply(value.Record{Commit: 2, Changes: []value.Change{
		{Oop: class.Root, Obj: slots(class.Dictionary, ref(1000), ref(1001), ref(1002), ref(1003))},
		{Oop: 1000, Obj: symbol("A")}, {Oop: 1001, Obj: counter(5)}, {Oop: 1002, Obj: symbol("B")}, {Oop: 1003, Obj: bag(1, 2)},
	}})
	sources := []string{
		"A increment: 3. B add: 7; remove: 1",
		"A decrement: 10; increment: 1. B add: true; add: 7",
		"B remove: 2; add: 2; add: nil. A increment: 0",
		"A decrement: 0 - 1152921504606846970",
		"A value. B size. A foo",
	}
	var all [][]run.Op
	for _, s := range sources { // each of them in a view of the same commit
		v := view.New(x)
		r, _, err := run.Start(v, s)
		if err != api.OK || !r.Go(1000) {
			t.Fatal("Start", s, err)
		}
		all = append(all, r.Ops())
		changes, oop, err := rc.All(x, r.Ops())
		if err != api.OK || !slices.EqualFunc(changes, v.Changed(), sameChange) {
			t.Errorf("%q: All = %v %d %v, the view has %v", s, changes, oop, err, v.Changed())
		}
	}
	for _, ops := range all {
		changes, oop, err := rc.All(x, ops)
		if err != api.OK {
			t.Fatal("All", oop, err)
		}
		if err := x.Apply(value.Record{Commit: x.Last() + 1, Changes: changes}); err != api.OK {
			t.Fatal("Apply", err)
		}
	}
	want := map[int64]api.Obj{
		1001: counter(5 + 3 - 9 + 0 + 1152921504606846970),
		1003: slots(class.Bag, api.Val{}, api.Val{K: api.True}, integer(2), integer(7), integer(7)),
	}
	for oop, o := range want {
		if got, err := x.At(x.Last(), oop); err != api.OK || !value.Same(got, o) {
			t.Errorf("%d is %v %v, want %v", oop, got, err, o)
		}
	}
}
