package sweep_test

import (
	"slices"
	"testing"

	"lapidary/api"
	"lapidary/sweep"
	"lapidary/table"
	"lapidary/value"
)

// P20.4: behind a Sweep nothing is lost, and Dump is as it was; the device tells the same.
func TestWhatIsReachedStays(t *testing.T) {
	swept := 0
	for seed := range int64(400) {
		s := someWorld(seed)
		if seed%2 == 0 {
			s.bad = oops(1, 16, 17, 20, 50, 2000, 4096)
		}
		records := s.records(true)
		d, x := fresh(t, 400, records[0])
		for _, r := range records[1:] {
			commits(t, x, r.Changes...)
		}
		before, lost := modelOf(x.Table()), modelOf(x.Table()).lost()
		sweeps(t, x, len(lost), api.OK)
		for _, y := range []*table.Table{x.Table(), opened(t, d).Table()} {
			found(t, y, before.whole(), before.reached(), nil)
			dumps(t, y, before.dump())
			list(t, "Oops", y.Oops(y.Last()), before.reached()...)
			for _, oop := range before.reached() {
				if o, err := y.At(y.Last(), oop); err != api.OK || !value.Same(o, before[oop]) {
					t.Errorf("the object %d is another one", oop)
				}
			}
		}
		ends(t, x, x.Last(), x.Last())
		if t.Failed() {
			t.Fatal("with the seed", seed)
		}
		if len(lost) > 0 {
			swept++
		}
	}
	if swept < 100 {
		t.Errorf("only %d sweeps took something", swept)
	}
}

// renamed is a table that is the same but for oops above 16: those are others' by a random choice.
func (s some) renamed(t *testing.T, x *table.Table) *table.Table {
	t.Helper()
	places := s.Perm(api.MaxOops - 16)
	name := func(oop int64) int64 {
		if oop <= 16 {
			return oop
		}
		return int64(17 + places[oop-17])
	}
	r := rec(1 + s.Int63n(9))
	for _, c := range x.All().Changes {
		c.Oop, c.Obj.Class = name(c.Oop), name(c.Obj.Class)
		for i, v := range c.Obj.Slots {
			if v.K == api.Ref {
				c.Obj.Slots[i] = ref(name(v.N))
			}
		}
		r.Changes = append(r.Changes, c)
	}
	slices.SortFunc(r.Changes, func(c, d value.Change) int { return int(c.Oop - d.Oop) })
	return tabled(t, r)
}

// P20.5: tables that are the same but for oops above 16 have the same Dump. What there is not has no place to be renamed to; so only some of the first 16 is missing here.
func TestTheSameButForOops(t *testing.T) {
	for seed := range int64(600) {
		s := someWorld(seed)
		if seed%2 == 0 {
			for oop := int64(1); oop <= 16; oop++ {
				if !slices.Contains(s.oops, oop) {
					s.bad = append(s.bad, oop)
				}
			}
		}
		x := tabled(t, s.records(false)...)
		y := s.renamed(t, x)
		dumps(t, y, sweep.Dump(x))
		if len(sweep.Lost(x)) != len(sweep.Lost(y)) || len(sweep.Reached(x)) != len(sweep.Reached(y)) {
			t.Errorf("%d and %d are lost", len(sweep.Lost(x)), len(sweep.Lost(y)))
		}
		if t.Failed() {
			t.Fatal("with the seed", seed)
		}
	}
}

// P20.5: tables that are not the same have not the same Dump.
func TestNotTheSame(t *testing.T) {
	base := []value.Change{put(1, naming(1, 20, 30)), put(20, naming(1)), put(30, naming(1, 20))}
	dump := sweep.Dump(at(t, base...))
	others := [][]value.Change{
		{put(1, naming(1, 30, 20)), put(20, naming(1)), put(30, naming(1, 20))},
		{put(1, naming(1, 20, 30)), put(20, naming(1)), put(30, naming(1, 30))},
		{put(1, naming(1, 20, 30)), put(20, naming(20)), put(30, naming(1, 20))},
		{put(2, naming(2, 20, 30)), put(20, naming(2)), put(30, naming(2, 20))},
		{put(1, naming(1, 20, 30)), put(20, naming(1))},
	}
	for i, changes := range others {
		if sameRecord(sweep.Dump(at(t, changes...)), dump) {
			t.Errorf("the other table %d has the same Dump", i)
		}
	}
}

// P20.5: a Dump can be applied, and a new table with it has that Dump; nothing of it is lost. A name of what there is not stays as it is, so that none here is one that a new number is too.
func TestDumpOfADump(t *testing.T) {
	for seed := range int64(600) {
		s := someWorld(seed)
		if seed%2 == 0 {
			s.bad = oops(1, 16, 4090, 4096)
			s.oops = slices.DeleteFunc(s.oops, func(oop int64) bool { return slices.Contains(s.bad, oop) })
		}
		x := tabled(t, s.records(false)...)
		d := sweep.Dump(x)
		if !value.RightRecord(d) || d.Commit != 1 {
			t.Fatalf("with the seed %d: a Dump that can not be", seed)
		}
		y := tabled(t, d)
		dumps(t, y, d)
		list(t, "Lost", sweep.Lost(y))
		if (sweep.Whole(x) == 0) != (sweep.Whole(y) == 0) {
			t.Errorf("Whole = %d, then %d", sweep.Whole(x), sweep.Whole(y))
		}
		if t.Failed() {
			t.Fatal("with the seed", seed)
		}
	}
}
