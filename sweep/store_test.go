package sweep_test

import (
	"testing"

	"lapidary/api"
	"lapidary/kernel"
	"lapidary/store"
	"lapidary/sweep"
	"lapidary/table"
	"lapidary/value"
)

func sweeps(t *testing.T, s *store.Store, want int, err api.Errno) {
	t.Helper()
	if n, e := sweep.Sweep(s); n != want || e != err {
		t.Fatalf("Sweep = %d, %d, want %d, %d", n, e, want, err)
	}
}

// ends asks for the first and the last commit of a store.
func ends(t *testing.T, s *store.Store, first, last int64) {
	t.Helper()
	if s.Table().First() != first || s.Last() != last {
		t.Errorf("commits from %d to %d, want from %d to %d", s.Table().First(), s.Last(), first, last)
	}
}

// P20.2: with nothing lost nothing is written, but how all was ahead is forgotten.
func TestSweepOfNothing(t *testing.T) {
	d, s := fresh(t, 60, rec(1, put(1, naming(1, 20)), put(20, naming(1))))
	commits(t, s, put(20, naming(1, 21)), put(21, naming(1)))
	before := contents(t, d)
	d.Fail(1)
	for range 2 {
		sweeps(t, s, 0, api.OK)
		ends(t, s, 2, 2)
	}
	sameDevice(t, d, before)
	if _, err := s.Table().At(1, 20); err != api.ErrRange {
		t.Error("the commit ahead can be asked")
	}
	if err := s.Commit(rec(3)); err != api.ErrDead {
		t.Errorf("Commit = %d", err)
	}
	sweeps(t, s, 0, api.OK) // a dead store writes nothing, and nothing is to be written
}

// P20.2: all that is lost goes, by one commit more.
func TestSweep(t *testing.T) {
	lostOnes := func(n int64) []value.Change {
		out := []value.Change{put(1, naming(1, 16)), put(16, naming(1))}
		for oop := int64(17); oop < 17+n; oop++ {
			out = append(out, put(oop, naming(1, min(oop+1, api.MaxOops))))
		}
		return out
	}
	for _, n := range []int64{1, 2, 500, api.MaxOops - 16} {
		d, s := fresh(t, 1200, rec(5, lostOnes(n)[:2]...))
		commits(t, s, lostOnes(n)...)
		dump := sweep.Dump(s.Table())
		sweeps(t, s, int(n), api.OK)
		ends(t, s, 7, 7)
		for _, x := range []*table.Table{s.Table(), opened(t, d).Table()} {
			found(t, x, 0, oops(1, 16), nil)
			dumps(t, x, dump)
			list(t, "Oops", x.Oops(7), 1, 16)
		}
		list(t, "Free", s.Table().Free(2), 2, 3)
		if len(s.Table().Free(api.MaxOops)) != api.MaxOops-2 {
			t.Error("what went is not free")
		}
		sweeps(t, s, 0, api.OK)
		ends(t, s, 7, 7)
		commits(t, s, put(17, naming(16)))
		sweeps(t, s, 1, api.OK)
		ends(t, s, 9, 9)
	}
}

// P20.2: what lost ones name, and what names lost ones, in the kernel's world.
func TestSweepOfAKernel(t *testing.T) {
	first, _ := kernel.Build()
	_, s := fresh(t, 600, first)
	sweeps(t, s, 0, api.OK)
	root, _ := s.Table().At(1, 15)
	root.Slots = []api.Val{{K: api.Int, N: 1}, ref(700)}
	commits(t, s, put(15, root), put(600, naming(10, 601)), put(601, naming(10, 700)), put(700, naming(10, 701)), put(701, naming(10, 700)))
	sweeps(t, s, 2, api.OK)
	root.Slots = nil
	commits(t, s, put(15, root))
	sweeps(t, s, 2, api.OK)
	dumps(t, s.Table(), sweep.Dump(tabled(t, first)))
	ends(t, s, 5, 5)
}

// P20.2: a Sweep whose Commit errs changes nothing.
func TestSweepRefused(t *testing.T) {
	lost := []value.Change{put(1, naming(1)), put(20, naming(1))}
	kept := func(s *store.Store, last int64, err api.Errno) {
		t.Helper()
		before := s.Table().All()
		sweeps(t, s, 0, err)
		ends(t, s, 0, last)
		if !sameRecord(s.Table().All(), before) {
			t.Error("a Sweep that was refused changed the store")
		}
	}
	_, s := fresh(t, 20, rec(api.MaxCommit, lost...))
	kept(s, api.MaxCommit, api.ErrArg)
	d, s := fresh(t, 4, rec(1, lost...)) // halves of one sector
	kept(s, 1, api.ErrFull)
	d.Fail(1)
	kept(s, 1, api.ErrFull)
	d, s = fresh(t, 20, rec(1, lost...))
	d.Fail(1)
	kept(s, 1, api.ErrDead)
	kept(s, 1, api.ErrState)
	d.Crash(nil)
	kept(s, 1, api.ErrState)
	sweeps(t, opened(t, d), 1, api.OK)
}

// P20.4, P3: a Sweep whose writes fail at each place, and a crash with each choice of what stays: what is reached is as it was, and the next Sweep goes through.
func TestSweepFails(t *testing.T) {
	var all []value.Change
	for oop := int64(1); oop <= 140; oop++ {
		all = append(all, put(oop, naming(1, oop/2+1)))
	}
	first := rec(1, all...)
	dump := sweep.Dump(tabled(t, first))
	lost := sweep.Lost(tabled(t, first))
	if len(lost) < 120 {
		t.Fatalf("only %d are lost", len(lost))
	}
	for n := 1; ; n++ {
		d, s := fresh(t, 80, first)
		d.Fail(n)
		if done, err := sweep.Sweep(s); err == api.OK {
			if done != len(lost) || n < 4 {
				t.Errorf("Sweep = %d, in %d writes", done, n-1)
			}
			return
		} else if done != 0 || err != api.ErrDead {
			t.Fatalf("Sweep = %d, %d", done, err)
		}
		for choice := range 1 << d.Pending() {
			e := d.Copy()
			var keep []bool
			for i := range d.Pending() {
				keep = append(keep, choice>>i&1 == 1)
			}
			e.Crash(keep)
			again := opened(t, e)
			dumps(t, again.Table(), dump)
			if again.Last() == 1 {
				sweeps(t, again, len(lost), api.OK)
			}
			found(t, again.Table(), 0, sweep.Reached(tabled(t, first)), nil)
			dumps(t, again.Table(), dump)
		}
	}
}
