package sweep_test

import (
	"bytes"
	"maps"
	"math/rand"
	"slices"
	"testing"

	"lapidary/api"
	"lapidary/disk"
	"lapidary/store"
	"lapidary/sweep"
	"lapidary/table"
	"lapidary/value"
)

func ref(n int64) api.Val { return api.Val{K: api.Ref, N: n} }

// naming is an object of a class that names some others.
func naming(class int64, oops ...int64) api.Obj {
	o := api.Obj{Class: class}
	for _, oop := range oops {
		o.Slots = append(o.Slots, ref(oop))
	}
	return o
}

func put(oop int64, o api.Obj) value.Change { return value.Change{Oop: oop, Obj: o} }

func gone(oop int64) value.Change { return value.Change{Oop: oop, Gone: true} }

func rec(commit int64, changes ...value.Change) value.Record {
	return value.Record{Commit: commit, Changes: changes}
}

// tabled is a table with these commits.
func tabled(t *testing.T, records ...value.Record) *table.Table {
	t.Helper()
	x := table.New()
	for _, r := range records {
		if err := x.Apply(r); err != api.OK {
			t.Fatalf("Apply of %d = %d", r.Commit, err)
		}
	}
	return x
}

// at is a table with one commit of these changes.
func at(t *testing.T, changes ...value.Change) *table.Table {
	t.Helper()
	return tabled(t, rec(1, changes...))
}

// fresh is a store with a first commit, and its device.
func fresh(t *testing.T, sectors int, first value.Record) (*disk.Disk, *store.Store) {
	t.Helper()
	d, err := disk.New(sectors)
	if err != api.OK {
		t.Fatalf("New(%d) = %d", sectors, err)
	}
	if err := store.Format(d, first); err != api.OK {
		t.Fatalf("Format = %d", err)
	}
	return d, opened(t, d)
}

func opened(t *testing.T, d *disk.Disk) *store.Store {
	t.Helper()
	s, err := store.Open(d)
	if err != api.OK {
		t.Fatalf("Open = %d", err)
	}
	return s
}

func commits(t *testing.T, s *store.Store, changes ...value.Change) {
	t.Helper()
	if err := s.Commit(rec(s.Last()+1, changes...)); err != api.OK {
		t.Fatalf("Commit = %d", err)
	}
}

func contents(t *testing.T, d *disk.Disk) []byte {
	t.Helper()
	b, err := d.Read(0, d.Size())
	if err != api.OK {
		t.Fatalf("Read = %d", err)
	}
	return b
}

func list(t *testing.T, what string, got []int64, want ...int64) {
	t.Helper()
	if !slices.Equal(got, want) {
		t.Errorf("%s: %v, want %v", what, got, want)
	}
}

// found asks for all that is reached, all that is lost, and whether something is missing.
func found(t *testing.T, x *table.Table, whole int64, reached, lost []int64) {
	t.Helper()
	list(t, "Reached", sweep.Reached(x), reached...)
	list(t, "Lost", sweep.Lost(x), lost...)
	if n := sweep.Whole(x); n != whole {
		t.Errorf("Whole = %d, want %d", n, whole)
	}
}

// sameRecord tells whether two records are alike in all.
func sameRecord(r, s value.Record) bool {
	return r.Commit == s.Commit && slices.EqualFunc(r.Changes, s.Changes, func(x, y value.Change) bool {
		return x.Oop == y.Oop && x.Gone == y.Gone && value.Same(x.Obj, y.Obj)
	})
}

func dumps(t *testing.T, x *table.Table, want value.Record) {
	t.Helper()
	if r := sweep.Dump(x); !sameRecord(r, want) {
		t.Errorf("Dump\n%v, want\n%v", r, want)
	}
}

// some is how a random table is made.
type some struct {
	*rand.Rand
	oops []int64 // objects that may be there, rising
	bad  []int64 // what there is not, and is named all the same
}

// someWorld chooses oops, with all or a few of those up to 16.
func someWorld(seed int64) some {
	r := rand.New(rand.NewSource(seed))
	chosen := map[int64]struct{}{}
	for oop := int64(1); oop <= 16; oop++ {
		if seed%3 == 0 || r.Intn(3) == 0 {
			chosen[oop] = struct{}{}
		}
	}
	for range 1 + r.Intn(25) {
		chosen[17+r.Int63n(60)] = struct{}{}
		chosen[1+r.Int63n(api.MaxOops)] = struct{}{}
	}
	return some{Rand: r, oops: slices.Sorted(maps.Keys(chosen))}
}

// name is an object that may be there, or what there is not.
func (s some) name() int64 {
	if len(s.bad) > 0 && s.Intn(12) == 0 {
		return s.bad[s.Intn(len(s.bad))]
	}
	return s.oops[s.Intn(len(s.oops))]
}

// obj is an object with few names, so that some are lost.
func (s some) obj() api.Obj {
	o := api.Obj{Class: s.name(), Bytes: make([]byte, s.Intn(4))}
	s.Read(o.Bytes)
	for range s.Intn(4) {
		switch s.Intn(3) {
		case 0:
			o.Slots = append(o.Slots, api.Val{K: api.Int, N: s.Int63n(40)})
		case 1:
			o.Slots = append(o.Slots, ref(s.name()))
		case 2:
			o.Slots = append(o.Slots, api.Val{K: s.Intn(3)})
		}
	}
	return o
}

// all is a commit that puts all objects.
func (s some) all(commit int64) value.Record {
	r := rec(commit)
	for _, oop := range s.oops {
		r.Changes = append(r.Changes, put(oop, s.obj()))
	}
	return r
}

// part is a commit that puts some objects anew, and, if that may be, lets some go.
func (s some) part(commit int64, letGo bool) value.Record {
	r := rec(commit)
	for _, oop := range s.oops {
		switch n := s.Intn(9); {
		case n == 0 && letGo:
			r.Changes = append(r.Changes, gone(oop))
		case n < 3:
			r.Changes = append(r.Changes, put(oop, s.obj()))
		}
	}
	return r
}

// records are some commits, the first of which puts all.
func (s some) records(letGo bool) []value.Record {
	out := []value.Record{s.all(1)}
	for range s.Intn(4) {
		out = append(out, s.part(int64(len(out)+1), letGo))
	}
	return out
}

// model is what chapter 20 says, gone through anew for each answer.
type model map[int64]api.Obj

func modelOf(x *table.Table) model {
	m := model{}
	for _, oop := range x.Oops(x.Last()) {
		m[oop], _ = x.At(x.Last(), oop)
	}
	return m
}

func (m model) has(oop int64) bool {
	_, is := m[oop]
	return is
}

// reached grows what is reached till nothing more comes.
func (m model) reached() []int64 {
	in := map[int64]struct{}{}
	for oop := range m {
		if oop <= 16 {
			in[oop] = struct{}{}
		}
	}
	for grown := true; grown; {
		grown = false
		for _, oop := range slices.Collect(maps.Keys(in)) {
			for _, other := range value.Refs(m[oop]) {
				if _, is := in[other]; !is && m.has(other) {
					in[other] = struct{}{}
					grown = true
				}
			}
		}
	}
	return slices.Sorted(maps.Keys(in))
}

func (m model) lost() []int64 {
	var out []int64
	reached := m.reached()
	for oop := range m {
		if !slices.Contains(reached, oop) {
			out = append(out, oop)
		}
	}
	slices.Sort(out)
	return out
}

func (m model) whole() int64 {
	for _, oop := range m.reached() {
		for _, other := range value.Refs(m[oop]) {
			if !m.has(other) {
				return oop
			}
		}
	}
	return 0
}

// numbers are the new numbers, by oop, and the oops in their order: each time the first object that has none yet, of all that is named, gets the next one.
func (m model) numbers() (map[int64]int64, []int64) {
	numbers, order := map[int64]int64{}, []int64{}
	for oop := int64(1); oop <= 16; oop++ {
		if m.has(oop) {
			numbers[oop], order = oop, append(order, oop)
		}
	}
	for next := int64(17); ; next++ {
		var named []int64
		for _, oop := range order {
			named = append(named, value.Refs(m[oop])...)
		}
		i := slices.IndexFunc(named, func(oop int64) bool { return m.has(oop) && numbers[oop] == 0 })
		if i < 0 {
			return numbers, order
		}
		numbers[named[i]], order = next, append(order, named[i])
	}
}

func (m model) dump() value.Record {
	numbers, order := m.numbers()
	number := func(oop int64) int64 {
		if m.has(oop) {
			return numbers[oop]
		}
		return oop
	}
	r := rec(1)
	for _, oop := range order {
		o := value.Copy(m[oop])
		o.Class = number(o.Class)
		for i, v := range o.Slots {
			if v.K == api.Ref {
				o.Slots[i] = ref(number(v.N))
			}
		}
		r.Changes = append(r.Changes, put(numbers[oop], o))
	}
	return r
}

// sameDevice tells whether two devices have the same bytes.
func sameDevice(t *testing.T, d *disk.Disk, before []byte) {
	t.Helper()
	if !bytes.Equal(contents(t, d), before) || d.Pending() != 0 {
		t.Error("the device is another one")
	}
}
