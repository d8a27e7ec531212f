package store_test

import (
	"bytes"
	"math"
	"slices"
	"testing"

	"lapidary/api"
	"lapidary/ring"
	"lapidary/store"
	"lapidary/table"
	"lapidary/value"
)

// P19.4, P19.5: the chapter's example.
func TestExample(t *testing.T) {
	d, s := fresh(t, 60, rec(1, put(1, a)))
	commits(t, s, rec(2, put(7, b)), api.OK)
	d.Crash(nil)
	s = opened(t, d)
	has(t, s, rec(2, put(1, a), put(7, b)))
}

// P19.4: a commit is applied, and stands in the log as 0 and its bytes.
func TestCommit(t *testing.T) {
	d, s := fresh(t, 60, rec(1, put(1, a), put(2, b)))
	want := table.New()
	want.Apply(rec(1, put(1, a), put(2, b)))
	list := []value.Record{rec(2, put(1, c), gone(2), put(api.MaxOops, b)), rec(3), rec(4, gone(1), put(2, a)), rec(5, gone(77))}
	for _, r := range list {
		room := s.Room()
		commits(t, s, r, api.OK)
		want.Apply(r)
		if !sameTable(s.Table(), want) || s.Last() != r.Commit {
			t.Fatalf("behind the commit %d the table is another one", r.Commit)
		}
		if taken := room - s.Room(); taken != ring.Sectors(len(written(t, r))+1) || d.Pending() != 0 {
			t.Errorf("the commit %d took %d sectors, %d writes are not safe", r.Commit, taken, d.Pending())
		}
		if again := opened(t, d.Copy()); !sameTable(again.Table(), want) || again.Room() != s.Room() {
			t.Fatalf("opened behind the commit %d the table is another one", r.Commit)
		}
	}
	_, log, _ := ring.Open(d.Copy())
	if len(log) != 1+len(list) {
		t.Fatalf("the log has %d records", len(log))
	}
	for i, r := range list {
		if !bytes.Equal(log[1+i], line(t, 0, r)) {
			t.Errorf("the log's record of the commit %d is another one", r.Commit)
		}
	}
}

// P19.4: the errors of a Commit, in the order in which they are named; none of them changes anything.
func TestCommitRefused(t *testing.T) {
	d, s := fresh(t, 1200, rec(1, put(1, a)))
	commits(t, s, rec(2, put(2, b)), api.OK)
	kept(t, d, s, func() {
		for _, r := range wrong() {
			commits(t, s, r, api.ErrArg)
			r.Commit = 3
			if !value.RightRecord(r) {
				commits(t, s, r, api.ErrArg)
			}
		}
		for _, commit := range []int64{1, 2, 4, 5, api.MaxCommit} {
			commits(t, s, rec(commit), api.ErrState)
			commits(t, s, filled(t, 30000, commit, 1), api.ErrState)
			commits(t, s, tooLong(t, commit), api.ErrState)
		}
		commits(t, s, tooLong(t, 3), api.ErrSize)
		commits(t, s, filled(t, 60000, 3, 1), api.ErrSize) // with the byte ahead there are 60001
	})
	commits(t, s, filled(t, 59999, 3, 1), api.OK)
	tells(t, d, opened(t, d.Copy()).Table().All())
	if d, s := fresh(t, 20, rec(1)); s.Commit(tooLong(t, 2)) != api.ErrSize || d.Pending() != 0 {
		t.Error("ErrSize is not ahead of ErrFull")
	}
}

// tooLong is a record that PutRecord makes too many bytes of.
func tooLong(t *testing.T, commit int64) value.Record {
	t.Helper()
	r := rec(commit, filled(t, 59000, commit, 1).Changes...)
	r.Changes = append(r.Changes, put(4000, text(1024)))
	if _, err := value.PutRecord(r); err != api.ErrSize {
		t.Fatalf("PutRecord = %d", err)
	}
	return r
}

// P19.4: no commit comes behind the greatest one.
func TestCommitBehindTheGreatest(t *testing.T) {
	d, s := fresh(t, 20, rec(api.MaxCommit-1, put(1, a)))
	commits(t, s, rec(api.MaxCommit, put(1, b)), api.OK)
	kept(t, d, s, func() {
		commits(t, s, rec(api.MaxCommit+1, put(1, c)), api.ErrArg)
		commits(t, s, rec(api.MaxCommit), api.ErrState)
		commits(t, s, rec(1), api.ErrState)
	})
	checkpoints(t, s, api.OK)
	tells(t, d, rec(api.MaxCommit, put(1, b)))
}

// P19.4: a log that is full, a device that is dead besides, and room again behind a Checkpoint.
func TestCommitFull(t *testing.T) {
	d, s := fresh(t, 2+2*4, rec(1, put(1, a)))
	commits(t, s, filled(t, 2*112-1, 2, 2), api.OK) // two sectors
	one, two := filled(t, 111, 3, 2), filled(t, 112, 3, 2)
	if s.Room() != 1 {
		t.Fatalf("Room() = %d", s.Room())
	}
	kept(t, d, s, func() { commits(t, s, two, api.ErrFull) })
	d.Fail(1)
	kept(t, d, s, func() { commits(t, s, two, api.ErrFull) }) // nothing was written
	d.Fail(0)
	commits(t, s, one, api.OK)
	want := s.Table().All()
	kept(t, d, s, func() { commits(t, s, rec(4), api.ErrFull) })
	tells(t, d, want)
	checkpoints(t, s, api.OK)
	commits(t, s, rec(4), api.OK)
	want.Commit = 4
	tells(t, d, want)
}

// P19.4: behind a call that ended with ErrDead nothing is written any more, whatever is asked, and the store tells what it told.
func TestBehindDead(t *testing.T) {
	calls := []func(s *store.Store) api.Errno{
		func(s *store.Store) api.Errno { return s.Commit(rec(3, put(9, c))) },
		func(s *store.Store) api.Errno { return s.Checkpoint() },
	}
	for _, call := range calls {
		d, s := fresh(t, 60, rec(1, put(1, a)))
		commits(t, s, rec(2, put(2, b)), api.OK)
		before, room := s.Table(), s.Room()
		d.Fail(1)
		if err := call(s); err != api.ErrDead {
			t.Fatalf("a call whose write fails = %d", err)
		}
		for _, alive := range []bool{false, true} {
			if alive {
				d.Crash(nil) // the device is there again, but not for this store
			}
			for _, r := range append(wrong(), rec(3), rec(2), tooLong(t, 3)) {
				commits(t, s, r, api.ErrState)
			}
			checkpoints(t, s, api.ErrState)
			if !sameTable(s.Table(), before) || s.Last() != 2 || s.Room() != room || d.Pending() != 0 {
				t.Error("a dead store tells something else")
			}
		}
		if s.Forget(3) != api.ErrRange || s.Forget(2) != api.OK || s.Table().First() != 2 {
			t.Error("a dead store's table does not forget")
		}
		tells(t, d, rec(2, put(1, a), put(2, b)))
		commits(t, opened(t, d), rec(3), api.OK)
	}
}

// P19.4: of a device that somebody else let die a store is told at its next call.
func TestDeadByOthers(t *testing.T) {
	d, s := fresh(t, 60, rec(1, put(1, a)))
	d.Fail(1)
	d.Write(50, make([]byte, api.Sector))
	commits(t, s, rec(1), api.ErrState)
	commits(t, s, rec(0), api.ErrArg) // no call of the store was told so far
	commits(t, s, rec(2), api.ErrDead)
	commits(t, s, rec(0), api.ErrState)
	checkpoints(t, s, api.ErrState)
}

// P19.4, P19.6: a Checkpoint writes the pieces of all there is, and changes no object, nor how all was ahead.
func TestCheckpoint(t *testing.T) {
	d, s := fresh(t, 1200, rec(1, put(1, a), put(2, b)))
	commits(t, s, filled(t, 9000, 2, 10), api.OK)
	commits(t, s, rec(3, put(1, c), gone(2)), api.OK)
	before := s.Table()
	checkpoints(t, s, api.OK)
	if !sameTable(s.Table(), before) || d.Pending() != 0 {
		t.Error("a Checkpoint changed the table")
	}
	_, log, _ := ring.Open(d.Copy())
	if want := modelPieces(t, before.All()); len(want) != 3 || !slices.EqualFunc(log, want, bytes.Equal) {
		t.Errorf("the log has %d records", len(log))
	}
	again := opened(t, d)
	has(t, again, before.All())
	if again.Table().First() != 0 || len(again.Table().Oops(2)) != 0 {
		t.Error("behind a Checkpoint there is how all was ahead of it")
	}
	commits(t, again, rec(4, gone(1)), api.OK)
	checkpoints(t, again, api.OK)
	checkpoints(t, again, api.OK)
	tells(t, d, again.Table().All())
}

// P19.4: a Checkpoint of no objects.
func TestCheckpointOfNone(t *testing.T) {
	d, s := fresh(t, 20, rec(1, put(1, a)))
	commits(t, s, rec(2, gone(1)), api.OK)
	checkpoints(t, s, api.OK)
	if s.Room() != 9-1 {
		t.Errorf("Room() = %d", s.Room())
	}
	tells(t, d, rec(2))
	commits(t, s, rec(3, put(1, b)), api.OK)
	tells(t, d, rec(3, put(1, b)))
}

// P19.4: a Checkpoint for which a half has no room: pieces take more sectors than one record.
func TestCheckpointFull(t *testing.T) {
	long := filled(t, 59999, 2, 1)
	need := 0
	for _, p := range modelPieces(t, long) {
		need += ring.Sectors(len(p))
	}
	half := 1 + ring.Sectors(60000)
	if need <= half {
		t.Fatalf("the pieces take %d sectors, a half has %d", need, half)
	}
	d, s := fresh(t, 2+2*half, rec(1))
	commits(t, s, long, api.OK)
	kept(t, d, s, func() { checkpoints(t, s, api.ErrFull) })
	d.Fail(1)
	kept(t, d, s, func() { checkpoints(t, s, api.ErrFull) })
	d.Fail(0)
	commits(t, s, rec(3), api.ErrFull)
	tells(t, d, long)
}

// P19.4: Table is a copy.
func TestTable(t *testing.T) {
	_, s := fresh(t, 60, rec(1, put(1, b)))
	x, y := s.Table(), s.Table()
	x.Apply(rec(2, put(1, c), put(2, c)))
	x.Forget(2)
	o, _ := y.At(1, 1)
	o.Bytes[0], o.Slots[0].N = '?', 9
	has(t, s, rec(1, put(1, b)))
	commits(t, s, rec(2, put(1, a)), api.OK)
	if !sameRecord(y.All(), rec(1, put(1, b))) || !sameRecord(x.All(), rec(2, put(1, c), put(2, c))) {
		t.Error("a Commit is seen in a copy")
	}
	if s.Table().First() != 0 {
		t.Error("a copy's Forget is seen in the store")
	}
}

// P19.4: Forget is the table's, and of this store alone.
func TestForget(t *testing.T) {
	d, s := fresh(t, 60, rec(1, put(1, a)))
	commits(t, s, rec(2, put(1, b), put(2, b)), api.OK)
	commits(t, s, rec(3, gone(2)), api.OK)
	before := contents(t, d)
	for _, commit := range []int64{-1, 4, math.MinInt64, math.MaxInt64} {
		if err := s.Forget(commit); err != api.ErrRange {
			t.Errorf("Forget(%d) = %d", commit, err)
		}
	}
	want := s.Table()
	for _, commit := range []int64{0, 2, 2, 3} {
		if err := s.Forget(commit); err != api.OK || s.Table().First() != commit {
			t.Errorf("Forget(%d) = %d", commit, err)
		}
		want.Forget(commit)
		if !sameTable(s.Table(), want) {
			t.Errorf("Forget(%d) made another table", commit)
		}
	}
	if err := s.Forget(2); err != api.ErrRange {
		t.Errorf("Forget of what is forgotten = %d", err)
	}
	if !bytes.Equal(contents(t, d), before) {
		t.Error("Forget wrote something")
	}
	if again := opened(t, d); again.Table().First() != 0 || len(again.Table().Oops(2)) != 2 {
		t.Error("Forget is on the device")
	}
}

// P19.4: calls of nil, and of a store that Open did not make.
func TestNil(t *testing.T) {
	for _, s := range []*store.Store{nil, {}} {
		for _, r := range append(wrong(), rec(1), rec(2, put(1, a))) {
			commits(t, s, r, api.ErrNil)
		}
		checkpoints(t, s, api.ErrNil)
		if s.Table() != nil || s.Last() != 0 || s.Room() != 0 {
			t.Error("nil has", s.Table(), s.Last(), s.Room())
		}
		for _, commit := range []int64{0, 1, -1, math.MaxInt64, math.MinInt64} {
			if err := s.Forget(commit); err != api.ErrNil {
				t.Errorf("Forget(%d) = %d", commit, err)
			}
		}
	}
}

// DOC.md, rules 4 and 5: a record that is handed in is not changed, and not kept.
func TestCommitOwnMemory(t *testing.T) {
	d, s := fresh(t, 60, rec(1))
	full := func() value.Record { return rec(2, put(1, value.Copy(b)), put(2, a)) }
	r := full()
	commits(t, s, r, api.OK)
	if !sameRecord(r, full()) {
		t.Error("Commit changed its argument")
	}
	r.Changes[0].Obj.Bytes[0], r.Changes[0].Obj.Slots[0].N = '?', 9
	r.Changes[1] = gone(2)
	has(t, s, full())
	checkpoints(t, s, api.OK)
	tells(t, d, full())
}
