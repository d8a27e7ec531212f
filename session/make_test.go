package session_test

import (
	"cmp"
	"slices"
	"testing"

	"lapidary/api"
	"lapidary/disk"
	"lapidary/kernel"
	"lapidary/session"
	"lapidary/store"
	"lapidary/table"
	"lapidary/valid"
	"lapidary/value"
)

// enough is more steps than any source of the tests takes that is to end.
const enough = 20000

// Where the first commit leaves oops free, from the least one on.
const (
	first  = 17
	second = 18
	third  = 19
	fourth = 20
	fifth  = 35
)

func firstCommit(t testing.TB) value.Record {
	t.Helper()
	r, err := kernel.Build()
	if err != api.OK {
		t.Fatal("Build", err)
	}
	return r
}

// crowded is the first commit with objects more, so that only so many oops are free: the least ones.
func crowded(t testing.TB, free int) value.Record {
	t.Helper()
	r := firstCommit(t)
	all := table.New()
	if err := all.Apply(r); err != api.OK {
		t.Fatal("Apply", err)
	}
	for _, oop := range all.Free(api.MaxOops)[free:] {
		r.Changes = append(r.Changes, value.Change{Oop: oop, Obj: api.Obj{Class: 1}})
	}
	slices.SortFunc(r.Changes, func(c, d value.Change) int { return cmp.Compare(c.Oop, d.Oop) })
	return r
}

// laid is a world on a device with a first commit.
func laid(t testing.TB, sectors int, r value.Record) (*disk.Disk, *session.World) {
	t.Helper()
	d, err := disk.New(sectors)
	if err != api.OK {
		t.Fatal("New", err)
	}
	if err := store.Format(d, r); err != api.OK {
		t.Fatal("Format", err)
	}
	s, err := store.Open(d)
	if err != api.OK {
		t.Fatal("Open", err)
	}
	return d, session.Make(s)
}

// world is a world with the first commit, on a device with room enough.
func world(t testing.TB) *session.World {
	t.Helper()
	_, w := laid(t, 2000, firstCommit(t))
	return w
}

// joins is one session more.
func joins(t testing.TB, w *session.World) *session.Session {
	t.Helper()
	s, err := w.Session()
	if err != api.OK || s == nil {
		t.Fatalf("Session = %v, %d", s, err)
	}
	return s
}

// two are a world and two sessions of it.
func two(t testing.TB) (*session.World, *session.Session, *session.Session) {
	t.Helper()
	w := world(t)
	return w, joins(t, w), joins(t, w)
}

// say asks a source and lets it run to its end.
func say(t testing.TB, s *session.Session, source string) api.Reply {
	t.Helper()
	replies(t, "Ask of "+source, s.Ask(source), api.Reply{})
	return s.Run(enough)
}

func replies(t testing.TB, what string, got, want api.Reply) {
	t.Helper()
	if got != want {
		t.Errorf("%s: %+v, want %+v", what, got, want)
	}
}

// says asks that a source has a text.
func says(t testing.TB, s *session.Session, source, text string) {
	t.Helper()
	replies(t, source, say(t, s, source), api.Reply{Text: text, N: 1})
}

// fails asks that a source ends by an error.
func fails(t testing.TB, s *session.Session, source, failure string) {
	t.Helper()
	replies(t, source, say(t, s, source), api.Reply{Err: api.ErrArg, Text: failure, N: 1})
}

// does runs sources whose values nobody asks for, nor shows.
func does(t testing.TB, s *session.Session, sources ...string) {
	t.Helper()
	for _, source := range sources {
		says(t, s, source+". nil", "nil")
	}
}

// commits asks that a Commit goes through, with this number; the view is made anew then.
func commits(t testing.TB, w *session.World, s *session.Session, n int64) {
	t.Helper()
	replies(t, "Commit", s.Commit(), api.Reply{N: n})
	did(t, s, n, nil, nil)
	if w.Store().Last() != n {
		t.Errorf("the store's last commit is %d, want %d", w.Store().Last(), n)
	}
}

// laying runs sources in a session of its own, and commits.
func laying(t testing.TB, w *session.World, sources ...string) {
	t.Helper()
	s := joins(t, w)
	does(t, s, sources...)
	commits(t, w, s, w.Store().Last()+1)
	replies(t, "Close", s.Close(), api.Reply{})
}

// refuses asks that a Commit has this error, and that all is as it was.
func refuses(t testing.TB, w *session.World, s *session.Session, want api.Reply) {
	t.Helper()
	before, busy := s.Did(), s.Busy()
	x, room, open := w.Store().Table(), w.Store().Room(), w.Open()
	for range 2 {
		replies(t, "Commit", s.Commit(), want)
	}
	if now := s.Did(); !sameTxn(now, before) || s.Busy() != busy || w.Open() != open {
		t.Errorf("a Commit that was refused makes %v of %v", now, before)
	}
	if !sameTable(w.Store().Table(), x) || w.Store().Room() != room {
		t.Error("a Commit that was refused changed the store")
	}
}

func clashes(t testing.TB, w *session.World, s *session.Session, oop int64) {
	t.Helper()
	refuses(t, w, s, api.Reply{Err: api.ErrClash, N: oop})
}

func oops(list ...int64) []int64 { return list }

func sameTxn(x, y valid.Txn) bool {
	return x.Base == y.Base && x.Commit == y.Commit && slices.Equal(x.Reads, y.Reads) && slices.Equal(x.Writes, y.Writes)
}

// did asks for just what a session read and wrote.
func did(t testing.TB, s *session.Session, base int64, reads, writes []int64) {
	t.Helper()
	want := valid.Txn{Base: base, Reads: reads, Writes: writes}
	if got := s.Did(); !sameTxn(got, want) || s.Base() != base {
		t.Errorf("Did = %v, Base = %d, want %v", got, s.Base(), want)
	}
}

// read tells whether a session read an object.
func read(s *session.Session, oop int64) bool {
	return slices.Contains(s.Did().Reads, oop)
}

// changed asks which objects a commit changed.
func changed(t testing.TB, w *session.World, commit int64, want ...int64) {
	t.Helper()
	x := w.Store().Table()
	var got []int64
	for oop := int64(1); oop <= api.MaxOops; oop++ {
		if x.Changed(oop) == commit {
			got = append(got, oop)
		}
	}
	if !slices.Equal(got, want) {
		t.Errorf("the commit %d changed %v, want %v", commit, got, want)
	}
}

// stands asks what an object is behind the last commit.
func stands(t testing.TB, w *session.World, oop int64, want api.Obj) {
	t.Helper()
	x := w.Store().Table()
	if o, err := x.At(x.Last(), oop); err != api.OK || !value.Same(o, want) {
		t.Errorf("the object %d is %v (%d), want %v", oop, o, err, want)
	}
}

func ref(oop int64) api.Val { return api.Val{K: api.Ref, N: oop} }

func integer(n int64) api.Val { return api.Val{K: api.Int, N: n} }

func text(class int64, s string) api.Obj { return api.Obj{Class: class, Bytes: []byte(s)} }

func slots(class int64, list ...api.Val) api.Obj { return api.Obj{Class: class, Slots: list} }

// sameTable tells whether two tables answer alike, behind each commit.
func sameTable(x, y *table.Table) bool {
	if x.First() != y.First() || x.Last() != y.Last() {
		return false
	}
	for commit := x.First(); commit <= x.Last(); commit++ {
		if !slices.Equal(x.Oops(commit), y.Oops(commit)) {
			return false
		}
		for _, oop := range x.Oops(commit) {
			o, _ := x.At(commit, oop)
			p, _ := y.At(commit, oop)
			if !value.Same(o, p) {
				return false
			}
		}
	}
	return true
}
