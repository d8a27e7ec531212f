package sweep_test

import (
	"slices"
	"testing"

	"lapidary/api"
	"lapidary/kernel"
	"lapidary/store"
	"lapidary/sweep"
	"lapidary/table"
	"lapidary/value"
)

func oops(list ...int64) []int64 { return list }

// P20.1: the chapter's example.
func TestExample(t *testing.T) {
	first, err := kernel.Build()
	if err != api.OK {
		t.Fatal("Build", err)
	}
	x := tabled(t, first)
	found(t, x, 0, x.Oops(1), nil)
}

// P20.1, P20.3: nil, and tables without objects.
func TestOfNone(t *testing.T) {
	found(t, nil, 0, nil, nil)
	dumps(t, nil, value.Record{})
	for _, x := range []*table.Table{table.New(), {}, at(t), at(t, gone(1)), tabled(t, rec(7, put(1, naming(1))), rec(9, gone(1)))} {
		found(t, x, 0, nil, nil)
		dumps(t, x, rec(1))
	}
}

// P20.1: what is reached, what is lost, and what names what there is not.
func TestReached(t *testing.T) {
	tests := []struct {
		name          string
		changes       []value.Change
		whole         int64
		reached, lost []int64
	}{
		{"one that names itself as its class", []value.Change{put(1, naming(1))}, 0, oops(1), nil},
		{"none of those that are always there", []value.Change{put(17, naming(17)), put(18, naming(17, 18))}, 0, nil, oops(17, 18)},
		{"16 alone", []value.Change{put(16, naming(16, 16)), put(17, naming(16))}, 0, oops(16), oops(17)},
		{"17 by 16", []value.Change{put(16, naming(16, 17)), put(17, naming(16))}, 0, oops(16, 17), nil},
		{"a few of them", []value.Change{put(3, naming(9)), put(9, naming(3)), put(20, naming(3))}, 0, oops(3, 9), oops(20)},
		{"by a class", []value.Change{put(1, naming(30)), put(30, naming(31)), put(31, naming(31))}, 0, oops(1, 30, 31), nil},
		{"one behind the other, falling", []value.Change{put(1, naming(1, 4096)), put(20, naming(1)), put(300, naming(1, 20)), put(4096, naming(1, 300))}, 0, oops(1, 20, 300, 4096), nil},
		{"by the last slot", []value.Change{put(1, api.Obj{Class: 1, Slots: []api.Val{{K: api.Int, N: 30}, {K: api.True}, ref(40)}}), put(30, naming(1)), put(40, naming(1))}, 0, oops(1, 40), oops(30)},
		{"those that name one another", []value.Change{put(1, naming(1, 20)), put(20, naming(1, 21)), put(21, naming(1, 20, 21)), put(30, naming(1, 31)), put(31, naming(1, 30))}, 0, oops(1, 20, 21), oops(30, 31)},
		{"what only lost ones name", []value.Change{put(1, naming(1)), put(20, naming(1, 21)), put(21, naming(22)), put(22, naming(1))}, 0, oops(1), oops(20, 21, 22)},
		{"a lost one that names one that is reached", []value.Change{put(1, naming(1, 20)), put(20, naming(1)), put(30, naming(1, 20, 1))}, 0, oops(1, 20), oops(30)},
		{"names of what there is not", []value.Change{put(2, naming(2)), put(5, naming(2, 40)), put(7, naming(41))}, 5, oops(2, 5, 7), nil},
		{"a class that there is not", []value.Change{put(16, naming(1))}, 16, oops(16), nil},
		{"one of the first 16 that there is not", []value.Change{put(1, naming(1, 16))}, 1, oops(1), nil},
		{"one far off that there is not", []value.Change{put(1, naming(1, 30)), put(20, naming(1, 4095)), put(30, naming(1, 20))}, 20, oops(1, 20, 30), nil},
		{"a lost one that names what there is not", []value.Change{put(1, naming(1)), put(20, naming(99))}, 0, oops(1), oops(20)},
		{"what is named over what there is not", []value.Change{put(1, naming(1, 20)), put(21, naming(1))}, 1, oops(1), oops(21)},
	}
	for _, test := range tests {
		t.Run(test.name, func(t *testing.T) {
			found(t, at(t, test.changes...), test.whole, test.reached, test.lost)
		})
	}
}

// P20.1: all is as behind the last commit, whatever was ahead of it.
func TestBehindTheLastCommit(t *testing.T) {
	x := tabled(t, rec(1, put(1, naming(1, 20)), put(20, naming(1, 21)), put(21, naming(1))))
	found(t, x, 0, oops(1, 20, 21), nil)
	x.Apply(rec(4, put(1, naming(1, 21)), put(22, naming(1, 21))))
	found(t, x, 0, oops(1, 21), oops(20, 22))
	x.Apply(rec(5, gone(21)))
	found(t, x, 1, oops(1), oops(20, 22))
	x.Apply(rec(6, gone(1), put(2, naming(22))))
	found(t, x, 22, oops(2, 22), oops(20))
	x.Forget(6)
	found(t, x, 22, oops(2, 22), oops(20))
	dumps(t, x, rec(1, put(2, naming(17)), put(17, naming(1, 21))))
}

// P20.1, P20.3: a table that is full, in one chain from its first object to its last.
func TestAFullTable(t *testing.T) {
	r := rec(1, put(1, naming(1, 4096)))
	for oop := int64(2); oop <= 16; oop++ {
		r.Changes = append(r.Changes, put(oop, naming(1)))
	}
	for oop := int64(17); oop <= api.MaxOops; oop++ {
		r.Changes = append(r.Changes, put(oop, naming(1, max(oop-1, 17))))
	}
	x := tabled(t, r)
	found(t, x, 0, x.Oops(1), nil)
	d := sweep.Dump(x)
	if len(d.Changes) != api.MaxOops || !value.RightRecord(d) || d.Changes[16].Obj.Slots[0] != ref(18) || d.Changes[4095].Obj.Slots[0] != ref(4096) {
		t.Error("Dump of a full table")
	}
	x.Apply(rec(2, put(1, naming(1))))
	found(t, x, 0, x.Oops(2)[:16], x.Oops(2)[16:])
}

// P20.3: new numbers in the order in which the objects come first: object by object, each one's class, then its slots.
func TestDump(t *testing.T) {
	text := func(class int64, s string, oops ...int64) api.Obj {
		o := naming(class, oops...)
		o.Bytes = []byte(s)
		return o
	}
	x := at(t,
		put(1, text(90, "a", 70, 80)), put(3, text(80, "b", 60, 16)), put(16, text(3, "c")), put(30, text(1, "h")), put(40, text(3, "i", 1)), put(50, text(50, "j")),
		put(60, text(1, "d", 50, 60)), put(65, text(1, "lost", 66)), put(66, text(1, "lost")), put(70, text(40, "e")), put(80, text(1, "f")), put(90, text(90, "g", 30)))
	// 1 brings 90, 70, 80; 3 brings 60; 90 brings 30; 70 brings 40; 60 brings 50.
	dumps(t, x, rec(1,
		put(1, text(17, "a", 18, 19)), put(3, text(19, "b", 20, 16)), put(16, text(3, "c")),
		put(17, text(17, "g", 21)), put(18, text(22, "e")), put(19, text(1, "f")), put(20, text(1, "d", 23, 20)),
		put(21, text(1, "h")), put(22, text(3, "i", 1)), put(23, text(23, "j"))))
}

// P20.3: numbers that are no names, and names of what there is not, stay as they are.
func TestDumpKeeps(t *testing.T) {
	slots := []api.Val{{}, {K: api.Int, N: 300}, ref(300), ref(400), {K: api.True}, ref(2), {K: api.Int, N: -1}, ref(17), {K: api.False}}
	x := at(t, put(1, api.Obj{Class: 16, Slots: slots}), put(300, naming(500, 4096)))
	want := slices.Clone(slots)
	want[2] = ref(17)
	dumps(t, x, rec(1, put(1, api.Obj{Class: 16, Slots: want}), put(17, naming(500, 4096))))
}

// P20.1, P20.3: any table is as the model is.
func TestModel(t *testing.T) {
	lost, missing := 0, 0
	for seed := range int64(1500) {
		s := someWorld(seed)
		if seed%2 == 0 {
			s.bad = oops(1, 16, 17, 20, 50, 2000, 4096)
		}
		x := tabled(t, s.records(seed%4 > 0)...)
		m := modelOf(x)
		found(t, x, m.whole(), m.reached(), m.lost())
		dumps(t, x, m.dump())
		if t.Failed() {
			t.Fatal("with the seed", seed)
		}
		if len(m.lost()) > 0 {
			lost++
		}
		if m.whole() > 0 {
			missing++
		}
	}
	if lost < 300 || missing < 300 {
		t.Errorf("%d tables with lost ones, %d that are not whole", lost, missing)
	}
}

// DOC.md, rules 4 and 6: answers are memory of their own, and always the same; a table is not changed.
func TestOwnMemory(t *testing.T) {
	full := func() *table.Table {
		return at(t, put(1, api.Obj{Class: 1, Slots: []api.Val{ref(20)}, Bytes: []byte("x")}), put(20, naming(1)), put(30, naming(1)))
	}
	x := full()
	for _, l := range [][]int64{sweep.Reached(x), sweep.Lost(x)} {
		_ = append(l, 99)
		l[0] = 99
	}
	r := sweep.Dump(x)
	r.Changes[0].Obj.Slots[0], r.Changes[0].Obj.Bytes[0] = ref(99), '?'
	found(t, x, 0, oops(1, 20), oops(30))
	dumps(t, x, sweep.Dump(full()))
	if !sameRecord(x.All(), full().All()) || x.First() != 0 || x.Last() != 1 {
		t.Error("the table was changed")
	}
}

// P20.2: calls of nil, and of a store that Open did not make.
func TestSweepOfNil(t *testing.T) {
	for _, s := range []*store.Store{nil, {}} {
		sweeps(t, s, 0, api.ErrNil)
	}
}
