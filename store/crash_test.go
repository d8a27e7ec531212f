package store_test

import (
	"maps"
	"math/rand"
	"slices"
	"testing"

	"lapidary/api"
	"lapidary/disk"
	"lapidary/store"
	"lapidary/value"
)

// subsets calls f with each choice among the writes that are not safe.
func subsets(n int, f func(keep []bool)) {
	for choice := range 1 << n {
		keep := make([]bool, n)
		for i := range keep {
			keep[i] = choice>>i&1 == 1
		}
		f(keep)
	}
}

// step is a call of a store, and what is there behind it, told by the table's All.
type step struct {
	name string
	do   func(s *store.Store) api.Errno
	then func(now value.Record) value.Record
}

// committing is a commit of these changes behind whichever is the last one.
func committing(name string, changes ...value.Change) step {
	return step{
		name,
		func(s *store.Store) api.Errno { return s.Commit(rec(s.Last()+1, changes...)) },
		func(now value.Record) value.Record { return with(now, changes...) },
	}
}

func checkpointing() step {
	return step{
		"Checkpoint",
		func(s *store.Store) api.Errno { return s.Checkpoint() },
		func(now value.Record) value.Record { return now },
	}
}

// with is all there is with a commit more.
func with(now value.Record, changes ...value.Change) value.Record {
	all := map[int64]value.Change{}
	for _, c := range slices.Concat(now.Changes, changes) {
		all[c.Oop] = c
	}
	out := rec(now.Commit + 1)
	for _, oop := range slices.Sorted(maps.Keys(all)) {
		if !all[oop].Gone {
			out.Changes = append(out.Changes, all[oop])
		}
	}
	return out
}

// attempt does one step on a device whose n-th write fails, and tells what may be there behind it; died is false if no write failed.
func attempt(t *testing.T, d *disk.Disk, n int, x step) (may []value.Record, died bool) {
	t.Helper()
	s := opened(t, d)
	now := s.Table().All()
	d.Fail(n)
	err := x.do(s)
	switch err {
	case api.OK:
		d.Fail(0)
		has(t, s, x.then(now))
		return []value.Record{x.then(now)}, false
	case api.ErrDead:
		has(t, s, now)
		return []value.Record{now, x.then(now)}, true
	case api.ErrFull:
		d.Fail(0)
		has(t, s, now)
		return []value.Record{now}, false
	}
	t.Fatalf("%s = %d", x.name, err)
	return nil, false
}

// oneOf asks that what Open tells may be there, and that it tells it again, whatever happens to it.
func oneOf(t *testing.T, d *disk.Disk, may []value.Record) {
	t.Helper()
	e := d.Copy()
	told := opened(t, e).Table().All()
	if !slices.ContainsFunc(may, func(m value.Record) bool { return sameRecord(m, told) }) {
		t.Fatalf("Open tells %v, not one of %v", told, may)
	}
	e.Crash(nil)
	tells(t, e, told)
	e = d.Copy()
	e.Fail(1)
	if s, err := store.Open(e); s != nil || err != api.ErrDead {
		t.Fatalf("Open whose write fails = %d", err)
	}
	e.Crash([]bool{true, true, true})
	tells(t, e, told)
}

func steps() []step {
	return []step{
		committing("one sector", gone(1), put(2, b)),
		committing("three sectors", put(1, text(250)), put(3, a)),
		committing("no changes"),
		checkpointing(),
	}
}

// P19.5: some steps, one behind the other, each of which fails at each of its writes, with each choice of what stays.
func TestNothingIsLostInThreeSteps(t *testing.T) {
	each(t, formatted(t, 2+2*8, rec(1, put(1, a))), 3)
}

// each does every step on a device, and then the others on what it left there.
func each(t *testing.T, start *disk.Disk, depth int) {
	t.Helper()
	if depth == 0 {
		return
	}
	for _, x := range steps() {
		for n, died := 1, true; died; n++ {
			d := start.Copy()
			var may []value.Record
			may, died = attempt(t, d, n, x)
			subsets(d.Pending(), func(keep []bool) {
				e := d.Copy()
				e.Crash(keep)
				oneOf(t, e, may)
				each(t, e, depth-1)
			})
		}
	}
}

// P19.5: a Checkpoint of several pieces, which fails at each of its writes; of what stays some choices are tried.
func TestNothingIsLostAtACheckpointOfPieces(t *testing.T) {
	start, s := fresh(t, 2+2*130, filled(t, 5000, 1, 1))
	commits(t, s, filled(t, 4000, 2, 100), api.OK)
	r := rand.New(rand.NewSource(3))
	for n, died := 1, true; died; n++ {
		d := start.Copy()
		var may []value.Record
		may, died = attempt(t, d, n, checkpointing())
		for i := range 6 {
			e := d.Copy()
			e.Crash(someKeep(r, d.Pending(), i))
			oneOf(t, e, may)
		}
	}
}

// someKeep is a choice of what stays: nothing, all, or by chance.
func someKeep(r *rand.Rand, n, which int) []bool {
	keep := make([]bool, n)
	for i := range keep {
		keep[i] = which == 1 || which > 1 && r.Intn(2) == 0
	}
	return keep
}

// P19.5: of a commit that was under way nothing is there while a sector of it is missing, and all of it else, though nobody had made it safe.
func TestTheCommitThatWasUnderWay(t *testing.T) {
	first, second := rec(1, put(1, a)), rec(2, put(1, text(150))) // which has two sectors
	for n := 1; n <= 2; n++ {
		d, s := fresh(t, 20, first)
		d.Fail(n)
		commits(t, s, second, api.ErrDead)
		d.Crash([]bool{true, true})
		tells(t, d, first)
	}
	d, s := fresh(t, 20, first)
	under := d.Copy()
	commits(t, s, second, api.OK)
	at := 2 + 9 + 1 // the second half's second sector
	under.Write(at, contents(t, d)[at*api.Sector:(at+2)*api.Sector])
	subsets(under.Pending(), func(keep []bool) {
		e := under.Copy()
		e.Crash(keep)
		if keep[0] && keep[1] {
			tells(t, e, second)
		} else {
			tells(t, e, first)
		}
	})
}

// P19.5, P19.6: long stories of commits, checkpoints, failing writes, crashes and openings, held against what was said.
func TestNothingIsLostInLongStories(t *testing.T) {
	checked := 0
	for seed := range int64(150) {
		r := rand.New(rand.NewSource(seed))
		d, s := fresh(t, 40+r.Intn(160), rec(1+r.Int63n(5), someChanges(r, 4)...))
		now := s.Table().All()
		for range 40 {
			if r.Intn(4) == 0 {
				d.Fail(1 + r.Intn(8))
			}
			x := someStep(r)
			may := []value.Record{now}
			switch err := x.do(s); err {
			case api.OK:
				may = []value.Record{x.then(now)}
				has(t, s, may[0])
			case api.ErrDead:
				may = append(may, x.then(now))
			case api.ErrFull:
			default:
				t.Fatalf("%s = %d", x.name, err)
			}
			now = may[0]
			if len(may) == 2 || r.Intn(6) == 0 {
				s, now = recovered(t, r, d, may)
				checked++
			}
			if t.Failed() {
				t.Fatal("with the seed", seed)
			}
		}
	}
	if checked < 1000 {
		t.Errorf("only %d crashes", checked)
	}
}

func someStep(r *rand.Rand) step {
	if r.Intn(4) == 0 {
		return checkpointing()
	}
	return committing("Commit", someChanges(r, 1+r.Int63n(12))...)
}

// recovered crashes and opens a device till that goes well, and asks that it tells what may be there.
func recovered(t *testing.T, r *rand.Rand, d *disk.Disk, may []value.Record) (*store.Store, value.Record) {
	t.Helper()
	for {
		d.Crash(someKeep(r, d.Pending(), 2))
		oneOf(t, d, may)
		may = []value.Record{opened(t, d.Copy()).Table().All()}
		if r.Intn(3) == 0 {
			d.Fail(1 + r.Intn(2))
		}
		s, err := store.Open(d)
		if err == api.ErrDead {
			continue
		}
		if err != api.OK {
			t.Fatalf("Open = %d", err)
		}
		has(t, s, may[0])
		return s, may[0]
	}
}
