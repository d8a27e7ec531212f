package server_test

import (
	"math/rand"
	"testing"

	"lapidary/api"
	"lapidary/server"
)

// P1, P2, P5: scripts at random without crashes: what was committed, done alone in the order of the commits, has the same replies, and all that is reached is the same.
func TestAsIfAlone(t *testing.T) {
	count := map[api.Errno]int{}
	for seed := range int64(150) {
		r := rand.New(rand.NewSource(seed))
		s, a, w := fresh(t, []int{44, 60, 80, 150, 500}[seed%5]), newAlone(t), &watch{asked: map[int][]said{}}
		began := map[int]int64{}
		for _, e := range script(r, 250) {
			if e.Kind == api.EvCrash || e.Kind == api.EvFail {
				continue
			}
			last := s.Store().Last()
			x := s.Do(e)
			if e.Kind == api.EvCommit {
				count[x.Err]++
				if x.Err == api.ErrClash && began[e.Who] == last {
					t.Errorf("%+v clashes, though nobody has committed since", e)
				}
			}
			beginnings(s, e, x, began)
			if d := w.follow(e, x); d != nil {
				a.does(t, *d)
			}
			if t.Failed() {
				t.Fatal("with the seed", seed)
			}
		}
		if same(t, s, a); t.Failed() {
			t.Fatal("with the seed", seed)
		}
	}
	if count[api.OK] < 1000 || count[api.ErrClash] < 100 || count[api.ErrFull] < 20 {
		t.Error("too few commits of a kind", count)
	}
}

// beginnings keeps behind which commit each session's view was made.
func beginnings(s *server.Server, e api.Event, x api.Reply, began map[int]int64) {
	if x.Err != api.OK {
		return
	}
	switch e.Kind {
	case api.EvLogin:
		began[int(x.N)] = s.Store().Last()
	case api.EvCommit, api.EvAbort:
		began[e.Who] = s.Store().Last()
	}
}

// P2: many add to a Counter and a Bag at once, and take away; all of it is there. What is not there can not be taken.
func TestCountersAndBags(t *testing.T) {
	s := fresh(t, 600)
	for n := range int64(4) {
		logsIn(t, s, n)
	}
	does(t, s, 0, "Root at: #c put: RcCounter new. Root at: #b put: RcBag new. (Root at: #b) add: 9")
	commits(t, s, 0, 2)
	for who := range 4 {
		goes(t, s, by(who, api.EvAbort))
		does(t, s, who, "(Root at: #c) increment: 3. (Root at: #b) add: 1; add: 2; remove: 1")
	}
	for who := range 4 {
		commits(t, s, who, int64(3+who))
	}
	for who := range 4 {
		goes(t, s, by(who, api.EvAbort))
	}
	says(t, s, 0, "(Root at: #c) value", "12")
	says(t, s, 1, "Root at: #b", "1:RcBag(2 2 2 2 9)")
	does(t, s, 2, "(Root at: #b) remove: 9. (Root at: #c) increment: 1")
	does(t, s, 3, "(Root at: #b) remove: 9. (Root at: #c) increment: 5")
	commits(t, s, 2, 7)
	unchanged(t, s, func() {
		replies(t, s, by(3, api.EvCommit), api.Reply{Err: api.ErrClash, N: bagOf(s)})
		replies(t, s, by(0, api.EvCommit), api.Reply{Err: api.ErrClash, N: counterOf(s)})
		replies(t, s, by(1, api.EvCommit), api.Reply{Err: api.ErrClash, N: bagOf(s)})
	})
	goes(t, s, by(3, api.EvAbort))
	says(t, s, 3, "(Root at: #c) value", "13")
}

// The objects of a class behind the last commit; of each there is one.
func counterOf(s *server.Server) int64 { return onlyOne(s, 13) }
func bagOf(s *server.Server) int64     { return onlyOne(s, 14) }

func onlyOne(s *server.Server, class int64) int64 {
	for _, c := range s.Store().Table().All().Changes {
		if c.Obj.Class == class {
			return c.Oop
		}
	}
	return 0
}

// P1: what was not committed leaves nothing: given up, ended, refused, gone with a crash.
func TestNotCommittedLeavesNothing(t *testing.T) {
	s := fresh(t, 600)
	for n := range int64(4) {
		logsIn(t, s, n)
	}
	const did = "Root at: #x put: #(1 2 3). Object subclass: #P slots: ''. Array compile: 'second ^self at: 2'"
	for who := range 4 {
		does(t, s, who, did)
	}
	unchanged(t, s, func() { goes(t, s, by(0, api.EvAbort)) })
	does(t, s, 0, "Root at: #y put: 1")
	commits(t, s, 0, 2)
	before := dump(s)
	goes(t, s, by(1, api.EvLogout))
	replies(t, s, by(2, api.EvCommit), api.Reply{Err: api.ErrClash, N: 15})
	replies(t, s, crashing(0, true, true), api.Reply{N: 2})
	if !sameRecord(dump(s), before) {
		t.Error("something is left")
	}
	logsIn(t, s, 0)
	says(t, s, 0, "Root", "1:Dictionary(#y 1)")
	fails(t, s, 0, "#(1 2) second", "does not understand second")
}
