package server_test

import (
	"math/rand"
	"testing"

	"lapidary/api"
	"lapidary/server"
	"lapidary/value"
)

// P3: scripts at random, with failing writes and crashes anywhere: behind each crash all is as behind the commits that were said to be there. (A write that fails is not done, so that of a step that died never all is there.)
func TestNothingIsLost(t *testing.T) {
	crashes := 0
	for seed := range int64(120) {
		r := rand.New(rand.NewSource(seed))
		s, a, w := fresh(t, 60+r.Intn(440)), newAlone(t), &watch{asked: map[int][]said{}}
		for _, e := range script(r, 250) {
			if r.Intn(12) == 0 {
				s.Do(failing(1 + r.Intn(6)))
			}
			if s.Down() {
				recovers(t, r, s, a)
				crashes++
			}
			x := s.Do(e)
			if d := w.follow(e, x); d != nil {
				a.does(t, *d)
				same(t, s, a)
			}
			if t.Failed() {
				t.Fatalf("with the seed %d: %+v", seed, e)
			}
		}
	}
	if crashes < 300 {
		t.Errorf("only %d crashes", crashes)
	}
}

// recovers crashes a server till it is up: it has what the other one has.
func recovers(t *testing.T, r *rand.Rand, s *server.Server, a *alone) {
	t.Helper()
	for times := 0; s.Down() && times < 100; times++ {
		keep := make([]bool, r.Intn(40))
		stays := r.Intn(3)
		for i := range keep {
			keep[i] = stays == 0 || stays == 1 && r.Intn(2) == 0
		}
		x := s.Do(crashing(r.Intn(4), keep...))
		if x != (api.Reply{N: a.Store().Last()}) && x != (api.Reply{Err: api.ErrDead}) {
			t.Fatalf("a crash: %+v, behind %d", x, a.Store().Last())
		}
	}
	if open(t, s); t.Failed() {
		t.FailNow()
	}
	same(t, s, a)
}

// same asks that all that is reached is the same.
func same(t *testing.T, s *server.Server, a *alone) {
	t.Helper()
	if s.Store().Last() != a.Store().Last() || !sameRecord(dump(s), dump(a.Server)) {
		t.Error("what is reached is not the same")
	}
}

// subsets calls f with each choice among so many writes.
func subsets(n int, f func(keep []bool)) {
	for choice := range 1 << n {
		keep := make([]bool, n)
		for i := range keep {
			keep[i] = choice>>i&1 == 1
		}
		f(keep)
	}
}

// worked is a server with a commit, and something that is lost.
func worked(t *testing.T) *server.Server {
	t.Helper()
	s := fresh(t, 60)
	logsIn(t, s, 0)
	does(t, s, 0, "Root at: #x put: #(1 2)")
	commits(t, s, 0, 2)
	does(t, s, 0, "Root at: #x put: 3")
	commits(t, s, 0, 3)
	goes(t, s, by(0, api.EvLogout))
	return s
}

// P3: a commit, a checkpoint and a sweep that fail at each of their writes, with choices of what stays, at which recovering fails too: all is as it was, or, if all of its writes stayed, as it was to be.
func TestEachWriteFails(t *testing.T) {
	cases := []struct {
		name   string
		ahead  func(s *server.Server)
		e      api.Event
		writes int
		behind int64 // the last commit, if it is done
	}{
		{"commit", func(s *server.Server) {
			logsIn(t, s, 0)
			does(t, s, 0, "Root at: #long put: (String new: 250)")
		}, by(0, api.EvCommit), 3, 4},
		{"sweep", func(s *server.Server) {}, step(api.EvSweep), 1, 4},
		{"checkpoint", func(s *server.Server) {}, step(api.EvCheckpoint), 19, 3},
	}
	for _, c := range cases {
		for n := 1; n <= c.writes+1; n++ {
			subsets(min(n-1, 4), func(keep []bool) {
				s := worked(t)
				c.ahead(s)
				before := dump(s)
				goes(t, s, failing(n))
				x := s.Do(c.e)
				if n > c.writes {
					if x.Err != api.OK || s.Store().Last() != c.behind {
						t.Errorf("%s: %+v, behind %d", c.name, x, s.Store().Last())
					}
					return
				}
				if x != (api.Reply{Err: api.ErrDead}) {
					t.Errorf("%s, whose write %d fails: %+v", c.name, n, x)
				}
				back(t, s, 3, before, keep)
			})
		}
	}
}

// back asks that a server that is down comes back behind a commit, with just what was reached then, however often it is crashed.
func back(t *testing.T, s *server.Server, commit int64, want value.Record, keep []bool) {
	t.Helper()
	replies(t, s, crashing(1, keep...), api.Reply{Err: api.ErrDead})
	for _, n := range []int{0, 0, 2} {
		replies(t, s, crashing(n, true, true), api.Reply{N: commit})
		open(t, s)
		if !sameRecord(dump(s), want) {
			t.Errorf("behind %d all is another one", commit)
		}
	}
}

// Example 7 of the whole: the second of the sectors that a commit writes fails.
func TestExample7(t *testing.T) {
	for _, keep := range [][]bool{nil, {true}, {false}, {true, true}} {
		s := worked(t)
		before := dump(s)
		logsIn(t, s, 0)
		does(t, s, 0, "Root at: #x put: (String new: 200)")
		goes(t, s, failing(2))
		replies(t, s, by(0, api.EvCommit), api.Reply{Err: api.ErrDead})
		down(t, s)
		replies(t, s, crashing(0, keep...), api.Reply{N: 3}) // a sector of it is not there
		if !sameRecord(dump(s), before) {
			t.Error("it is not as behind the commit ahead of it")
		}
	}
}
