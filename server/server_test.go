package server_test

import (
	"math"
	"slices"
	"strings"
	"testing"

	"lapidary/api"
	"lapidary/kernel"
	"lapidary/server"
	"lapidary/sweep"
)

// P22.1: devices that can not be, that are too small for a log, and that have no room for the first commit.
func TestNewRefuses(t *testing.T) {
	cases := map[int]api.Errno{
		0: api.ErrArg, -1: api.ErrArg, math.MinInt: api.ErrArg, math.MaxInt: api.ErrArg, api.MaxSectors + 1: api.ErrArg,
		1: api.ErrSize, 3: api.ErrSize, 4: api.ErrFull, 9: api.ErrFull, 37: api.ErrFull,
	}
	for sectors, want := range cases {
		if s, err := server.New(sectors); s != nil || err != want {
			t.Errorf("New(%d) = %v, %d, want %d", sectors, s, err, want)
		}
	}
}

// P22.1: a server without sessions, with the first commit.
func TestNew(t *testing.T) {
	first, _ := kernel.Build()
	for _, sectors := range []int{38, 600, api.MaxSectors} {
		s := fresh(t, sectors)
		open(t, s)
		if s.Steps() != 0 || s.Store().Last() != 1 || !sameRecord(s.Store().Table().All(), first) {
			t.Errorf("New(%d): steps %d, last %d", sectors, s.Steps(), s.Store().Last())
		}
		if !s.Close() {
			t.Error("it was closed")
		}
	}
}

// P22.1: of nil.
func TestNil(t *testing.T) {
	var s *server.Server
	for _, kind := range append(kinds(), 0, 99, -1) {
		if r := s.Do(step(kind)); r != (api.Reply{Err: api.ErrNil}) {
			t.Errorf("Do of nil = %+v", r)
		}
	}
	if s.Store() != nil || len(s.Open()) != 0 || s.Down() || s.Steps() != 0 || s.Close() || s.Close() {
		t.Error("of nil", s.Open(), s.Down(), s.Steps())
	}
}

// P7: a server that New did not make has no device, and is down.
func TestServerOfNobody(t *testing.T) {
	s := &server.Server{}
	down(t, s)
	if r := s.Do(crashing(1, true)); r.Err != api.ErrNil {
		t.Error("a crash of no device", r)
	}
	down(t, s)
}

// The chapter's example.
func TestExample(t *testing.T) {
	s := fresh(t, 600)
	logsIn(t, s, 0)
	goes(t, s, asking(0, "3 + 4"))
	replies(t, s, running(0, 9), api.Reply{Text: "7", N: 1})
	replies(t, s, step(api.EvSweep), api.Reply{Err: api.ErrOpen})
}

// P22.1: the least number that is no session's, and numbers that are free again; a fifth session is refused.
func TestNumbers(t *testing.T) {
	s := fresh(t, 600)
	for n := range int64(4) {
		logsIn(t, s, n)
	}
	open(t, s, 0, 1, 2, 3)
	full := func() {
		t.Helper()
		unchanged(t, s, func() { replies(t, s, step(api.EvLogin), api.Reply{Err: api.ErrFull}) })
	}
	full()
	goes(t, s, by(2, api.EvLogout))
	open(t, s, 0, 1, 3)
	goes(t, s, by(0, api.EvLogout))
	open(t, s, 1, 3)
	replies(t, s, by(0, api.EvLogout), api.Reply{Err: api.ErrNone})
	logsIn(t, s, 0)
	open(t, s, 0, 1, 3)
	logsIn(t, s, 2)
	full()
	goes(t, s, by(3, api.EvLogout))
	logsIn(t, s, 3)
	for n := range 4 {
		goes(t, s, by(n, api.EvLogout))
	}
	open(t, s)
	logsIn(t, s, 0)
	says(t, s, 0, "3 + 4", "7")
}

// P22.1: Who, N, Text and Keep of a step that does not ask for them play no part.
func TestOtherFieldsPlayNoPart(t *testing.T) {
	s := fresh(t, 600)
	more := api.Event{Who: 7, N: -3, Text: "a ]", Keep: []bool{true}}
	do := func(kind, who int, want api.Reply) {
		t.Helper()
		e := more
		e.Kind = kind
		if who >= 0 {
			e.Who = who
		}
		replies(t, s, e, want)
	}
	do(api.EvLogin, -1, api.Reply{})
	does(t, s, 0, "Root at: #x put: 1")
	do(api.EvCommit, 0, api.Reply{N: 2})
	do(api.EvAbort, 0, api.Reply{})
	do(api.EvCheckpoint, -1, api.Reply{})
	do(api.EvLogout, 0, api.Reply{})
	do(api.EvSweep, -1, api.Reply{})
	do(api.EvFail, -1, api.Reply{})
	do(api.EvCrash, -1, api.Reply{N: 2})
}

// P22.1: each session does just what is asked of it, and its Reply is passed on.
func TestStepsOfSessions(t *testing.T) {
	s := fresh(t, 600)
	logsIn(t, s, 0)
	logsIn(t, s, 1)
	replies(t, s, asking(0, "a ]"), api.Reply{Err: api.ErrSyntax, At: 2})
	replies(t, s, running(0, 9), api.Reply{Err: api.ErrState})
	goes(t, s, asking(0, "Root at: #x put: 5. 3 + 4"))
	replies(t, s, asking(0, "8"), api.Reply{Err: api.ErrState})
	replies(t, s, running(1, 9), api.Reply{Err: api.ErrState})
	goes(t, s, running(0, 1))
	replies(t, s, by(0, api.EvCommit), api.Reply{Err: api.ErrState})
	replies(t, s, running(0, 1), api.Reply{Text: "7", N: 1})
	fails(t, s, 1, "Root at: #x", "no such key")
	fails(t, s, 0, "1 / 0", "by nought")
	commits(t, s, 0, 2)
	replies(t, s, by(1, api.EvCommit), api.Reply{Err: api.ErrClash, N: 15})
	goes(t, s, by(1, api.EvAbort))
	says(t, s, 1, "Root at: #x", "5")
	commits(t, s, 1, 2)
	goes(t, s, asking(1, "[true] whileTrue: [1]"))
	goes(t, s, running(1, 100))
	goes(t, s, by(1, api.EvAbort))
	goes(t, s, asking(1, "[true] whileTrue: [1]"))
	goes(t, s, by(1, api.EvLogout))
	open(t, s, 0)
}

// P22.2: a Who that is no session's changes nothing, whatever it is to do.
func TestWhoIsNoSessions(t *testing.T) {
	s := fresh(t, 600)
	logsIn(t, s, 0)
	logsIn(t, s, 1)
	logsIn(t, s, 2)
	goes(t, s, by(1, api.EvLogout))
	does(t, s, 0, "Root at: #x put: 5")
	goes(t, s, asking(2, "3 + 4"))
	for _, who := range []int{1, 3, 4, -1, math.MinInt, math.MaxInt, 1 << 32} {
		for _, kind := range []int{api.EvAsk, api.EvRun, api.EvCommit, api.EvAbort, api.EvLogout} {
			unchanged(t, s, func() {
				for _, source := range []string{"3 + 4", "a ]", ""} {
					e := api.Event{Kind: kind, Who: who, N: 9, Text: source}
					replies(t, s, e, api.Reply{Err: api.ErrNone})
				}
			})
		}
	}
	replies(t, s, running(2, 9), api.Reply{Text: "7", N: 1})
	commits(t, s, 0, 2)
	logsIn(t, s, 1)
}

// P22.2: kinds of steps that there are not.
func TestNoSuchKind(t *testing.T) {
	s := fresh(t, 600)
	logsIn(t, s, 0)
	unchanged(t, s, func() {
		for _, kind := range []int{0, -1, 11, 99, math.MinInt, math.MaxInt} {
			replies(t, s, api.Event{Kind: kind, N: 1, Text: "3", Keep: []bool{true}}, api.Reply{Err: api.ErrArg})
			replies(t, s, by(7, kind), api.Reply{Err: api.ErrArg})
		}
	})
	says(t, s, 0, "3 + 4", "7")
}

// P22.1: all calls of Do are counted, those that are refused, while it is down and behind Close too; a server that is closed does nothing.
func TestClose(t *testing.T) {
	s := fresh(t, 600)
	logsIn(t, s, 0)
	does(t, s, 0, "Root at: #x put: 5")
	before := s.Steps()
	if before != 3 {
		t.Error("steps", before)
	}
	if !s.Close() || s.Close() || s.Close() {
		t.Error("Close")
	}
	unchanged(t, s, func() {
		for _, kind := range append(kinds(), 0, 99) {
			replies(t, s, api.Event{Kind: kind, N: 1, Text: "3 + 4"}, api.Reply{Err: api.ErrState})
		}
	})
	if s.Steps() != before+12 {
		t.Error("steps", s.Steps())
	}
	// a server that is down is closed just so
	s = fresh(t, 600)
	goes(t, s, failing(1))
	replies(t, s, step(api.EvCheckpoint), api.Reply{Err: api.ErrDead})
	if !s.Close() || s.Close() {
		t.Error("Close while it is down")
	}
	for _, kind := range append(kinds(), 0, 99) {
		replies(t, s, step(kind), api.Reply{Err: api.ErrState})
	}
	if !s.Down() || s.Store() != nil || s.Steps() != 14 {
		t.Error("behind Close", s.Down(), s.Steps())
	}
}

// P22.1: each step that finds the device dead lets it be down, all sessions are gone, till a crash opens the store.
func TestDown(t *testing.T) {
	ways := map[string]func(s *server.Server) api.Reply{
		"EvCommit": func(s *server.Server) api.Reply {
			does(t, s, 1, "Root at: #y put: 6")
			s.Do(failing(1))
			return s.Do(by(1, api.EvCommit))
		},
		"EvCheckpoint": func(s *server.Server) api.Reply {
			s.Do(failing(1))
			return s.Do(step(api.EvCheckpoint))
		},
		"EvSweep": func(s *server.Server) api.Reply {
			does(t, s, 1, "Root removeKey: #x")
			commits(t, s, 1, 3)
			s.Do(by(0, api.EvLogout))
			s.Do(by(1, api.EvLogout))
			s.Do(failing(1))
			return s.Do(step(api.EvSweep))
		},
		"EvCrash": func(s *server.Server) api.Reply { return s.Do(crashing(1)) },
	}
	for name, way := range ways {
		s := fresh(t, 600)
		logsIn(t, s, 0)
		logsIn(t, s, 1)
		does(t, s, 0, "Root at: #x put: #(1)")
		commits(t, s, 0, 2)
		goes(t, s, by(1, api.EvAbort))
		if r := way(s); r != (api.Reply{Err: api.ErrDead}) {
			t.Errorf("%s: %+v", name, r)
		}
		down(t, s)
		replies(t, s, crashing(1, true, true, true), api.Reply{Err: api.ErrDead}) // the head's write fails
		down(t, s)
		r := s.Do(crashing(0))
		if r.Err != api.OK || r.N < 2 || r.N != s.Store().Last() {
			t.Errorf("%s: %+v", name, r)
		}
		open(t, s)
		logsIn(t, s, 0)
		says(t, s, 0, "3 + 4", "7")
	}
}

// P22.1: a crash while it is up: all sessions are gone, with what they did; commits are there.
func TestCrash(t *testing.T) {
	s := fresh(t, 600)
	replies(t, s, crashing(0), api.Reply{N: 1})
	for n := range int64(4) {
		logsIn(t, s, n)
	}
	does(t, s, 2, "Root at: #x put: 5")
	commits(t, s, 2, 2)
	does(t, s, 2, "Root at: #x put: 6")
	goes(t, s, asking(1, "3 + 4"))
	old, keep := s.Store(), []bool{true, false}
	replies(t, s, crashing(0, keep...), api.Reply{N: 2})
	open(t, s)
	if s.Store() == old {
		t.Error("the store was not opened anew")
	}
	for who := range 4 {
		replies(t, s, running(who, 9), api.Reply{Err: api.ErrNone})
	}
	logsIn(t, s, 0)
	says(t, s, 0, "Root at: #x", "5")
	replies(t, s, crashing(-1), api.Reply{N: 2})
	replies(t, s, crashing(math.MinInt), api.Reply{N: 2})
	replies(t, s, crashing(math.MaxInt), api.Reply{N: 2})
	if !slices.Equal(keep, []bool{true, false}) {
		t.Error("Keep was changed")
	}
}

// P22.1: the N-th write behind a crash fails: the first one is the head's, those behind it are later steps'.
func TestCrashWhoseWriteFails(t *testing.T) {
	s := fresh(t, 600)
	replies(t, s, crashing(1), api.Reply{Err: api.ErrDead})
	down(t, s)
	replies(t, s, crashing(2), api.Reply{N: 1})
	open(t, s)
	logsIn(t, s, 0)
	does(t, s, 0, "Root at: #x put: 5")
	replies(t, s, by(0, api.EvCommit), api.Reply{Err: api.ErrDead})
	down(t, s)
	replies(t, s, crashing(3), api.Reply{N: 1}) // the head, and one sector
	logsIn(t, s, 0)
	does(t, s, 0, "Root at: #x put: 5")
	commits(t, s, 0, 2)
	does(t, s, 0, "Root at: #x put: 6")
	replies(t, s, by(0, api.EvCommit), api.Reply{Err: api.ErrDead})
	replies(t, s, crashing(5), api.Reply{N: 2})
	replies(t, s, failing(0), api.Reply{})
	logsIn(t, s, 0)
	for i := range int64(5) {
		does(t, s, 0, "Root at: #x put: "+strings.Repeat("1", int(i)+1))
		commits(t, s, 0, 3+i)
	}
}

// P22.1: EvFail says which write fails; a later one takes its place; a crash lets none fail.
func TestFail(t *testing.T) {
	s := fresh(t, 600)
	logsIn(t, s, 0)
	for _, n := range []int{0, -1, math.MinInt, math.MaxInt} {
		goes(t, s, failing(1))
		goes(t, s, failing(n))
		does(t, s, 0, "Root at: #x put: 5")
		commits(t, s, 0, s.Store().Last()+1)
	}
	goes(t, s, failing(3))
	last := s.Store().Last()
	for i := range int64(2) {
		does(t, s, 0, "Root at: #x put: 5")
		commits(t, s, 0, last+1+i)
	}
	does(t, s, 0, "Root at: #x put: 5")
	replies(t, s, by(0, api.EvCommit), api.Reply{Err: api.ErrDead})
	replies(t, s, crashing(0), api.Reply{N: last + 2})
	goes(t, s, failing(1))
	replies(t, s, crashing(0), api.Reply{N: last + 2})
	logsIn(t, s, 0)
	does(t, s, 0, "Root at: #x put: 5")
	commits(t, s, 0, last+3)
}

// P22.3: a sweep is refused while there is a session; else what nobody reaches goes, and all else is as it was.
func TestSweep(t *testing.T) {
	s := fresh(t, 600)
	replies(t, s, step(api.EvSweep), api.Reply{})
	logsIn(t, s, 0)
	does(t, s, 0, "Root at: #x put: #(1 'a'). Root at: #y put: #(2)")
	commits(t, s, 0, 2)
	does(t, s, 0, "Root removeKey: #x")
	commits(t, s, 0, 3)
	logsIn(t, s, 1)
	goes(t, s, by(0, api.EvLogout))
	unchanged(t, s, func() { replies(t, s, step(api.EvSweep), api.Reply{Err: api.ErrOpen}) })
	goes(t, s, by(1, api.EvLogout))
	before := dump(s)
	replies(t, s, step(api.EvSweep), api.Reply{N: 3}) // #x, the Array, 'a'
	open(t, s)
	x := s.Store().Table()
	if !sameRecord(dump(s), before) || len(sweep.Lost(x)) != 0 || x.First() != 4 || x.Last() != 4 {
		t.Error("behind a sweep", sweep.Lost(x), x.First(), x.Last())
	}
	replies(t, s, step(api.EvSweep), api.Reply{})
	if s.Store().Last() != 4 {
		t.Error("a sweep of nothing is a commit")
	}
	logsIn(t, s, 0)
	says(t, s, 0, "Root", "1:Dictionary(#y 2:Array(2))")
	does(t, s, 0, "Root at: #z put: 'new'")
	commits(t, s, 0, 5)
	if x := s.Store().Table(); x.Changed(17) != 5 || x.Changed(18) != 5 {
		t.Error("what was swept is not free")
	}
	replies(t, s, crashing(0), api.Reply{N: 5})
	if x := s.Store().Table(); len(sweep.Lost(x)) != 0 || sweep.Whole(x) != 0 {
		t.Error("behind a crash", sweep.Lost(x))
	}
}

// P22.3: who begins behind a sweep does not clash by it.
func TestNobodyClashesByASweep(t *testing.T) {
	s := fresh(t, 600)
	for i := range int64(3) {
		logsIn(t, s, 0)
		does(t, s, 0, "Root at: #x put: 'new'")
		commits(t, s, 0, 2+3*i)
		does(t, s, 0, "Root removeKey: #x")
		commits(t, s, 0, 3+3*i)
		goes(t, s, by(0, api.EvLogout))
		replies(t, s, step(api.EvSweep), api.Reply{N: 2})
	}
}

// P22.1: a Checkpoint, with sessions at work too, changes no object, and makes room.
func TestCheckpoint(t *testing.T) {
	s := fresh(t, 100)
	logsIn(t, s, 0)
	room := s.Store().Room()
	for i := range int64(5) {
		does(t, s, 0, "Root at: #x put: 5")
		commits(t, s, 0, 2+i)
	}
	does(t, s, 0, "Root at: #x put: 6")
	before := dump(s)
	goes(t, s, step(api.EvCheckpoint))
	open(t, s, 0)
	if s.Store().Room() <= room-5 || !sameRecord(dump(s), before) {
		t.Error("behind a Checkpoint", s.Store().Room(), room)
	}
	says(t, s, 0, "Root at: #x", "6")
	commits(t, s, 0, 7)
	replies(t, s, crashing(0), api.Reply{N: 7})
}

// refused asks that a session's commit has an error, and that nothing is changed by it.
func refused(t *testing.T, s *server.Server, who int, err api.Errno) {
	t.Helper()
	unchanged(t, s, func() {
		for range 2 {
			replies(t, s, by(who, api.EvCommit), api.Reply{Err: err})
		}
	})
}

// P22.4: a commit whose error is not ErrDead changes nothing, and its session goes on: a device without room, a record that is too long.
func TestFull(t *testing.T) {
	s := fresh(t, 60)
	logsIn(t, s, 0)
	logsIn(t, s, 1)
	does(t, s, 0, "Root at: 1 put: 1")
	commits(t, s, 0, 2)
	does(t, s, 0, "1 to: 3 do: [:i | Root at: i put: (String new: 1000)]")
	refused(t, s, 0, api.ErrFull)
	does(t, s, 0, "Root at: 2 put: 7")
	says(t, s, 0, "(Root at: 2) + (Root at: 1) size", "1007")
	does(t, s, 0, "| a | a := Array new: 70. 1 to: 70 do: [:i | a at: i put: (String new: 1000)]. Root at: 2 put: a")
	refused(t, s, 0, api.ErrSize)
	says(t, s, 0, "((Root at: 2) at: 70) size", "1000")
	goes(t, s, by(0, api.EvAbort))
	says(t, s, 0, "Root", "1:Dictionary(1 1)")
	commits(t, s, 1, 2)
	does(t, s, 1, "Root at: 1 put: 2")
	commits(t, s, 1, 3)
	refusedClash(t, s)
}

// refusedClash asks that one who clashes goes on, too.
func refusedClash(t *testing.T, s *server.Server) {
	t.Helper()
	unchanged(t, s, func() { replies(t, s, by(0, api.EvCommit), api.Reply{Err: api.ErrClash, N: 15}) })
	says(t, s, 0, "Root at: 1", "1")
	goes(t, s, by(0, api.EvAbort))
	says(t, s, 0, "Root at: 1", "2")
	commits(t, s, 0, 3)
}

// P22.4: a table without room; what is not reached needs none.
func TestFullTable(t *testing.T) {
	s := fresh(t, 1200)
	logsIn(t, s, 0)
	fill := func(key string) string {
		return "Root at: " + key + " put: (Array new: 250). 1 to: 250 do: [:i | (Root at: " + key + ") at: i put: (Array new: 1)]"
	}
	for i := range 15 {
		does(t, s, 0, fill(strings.Repeat("1", i+1)))
	}
	commits(t, s, 0, 2)
	if n := len(s.Store().Table().Free(api.MaxOops)); n >= 250 {
		t.Fatal("so many are free:", n)
	}
	does(t, s, 0, "Root at: 5 put: 6", fill("7"))
	refused(t, s, 0, api.ErrFull)
	says(t, s, 0, "(Root at: 7) size + (Root at: 5)", "256")
	does(t, s, 0, "Root at: 7 put: nil")
	commits(t, s, 0, 3)
	says(t, s, 0, "Root at: 5", "6")
}

// P22.4: a Sweep without room changes nothing either; a Checkpoint makes room for it.
func TestSweepWithoutRoom(t *testing.T) {
	s := fresh(t, 60)
	logsIn(t, s, 0)
	does(t, s, 0, "Root at: 1 put: 'lost'")
	commits(t, s, 0, 2)
	for s.Store().Room() > 0 {
		does(t, s, 0, "Root at: 1 put: 0")
		commits(t, s, 0, s.Store().Last()+1)
	}
	unchanged(t, s, func() { replies(t, s, step(api.EvSweep), api.Reply{Err: api.ErrOpen}) })
	goes(t, s, by(0, api.EvLogout))
	unchanged(t, s, func() { replies(t, s, step(api.EvSweep), api.Reply{Err: api.ErrFull}) })
	goes(t, s, step(api.EvCheckpoint))
	replies(t, s, step(api.EvSweep), api.Reply{N: 1})
}

// Rule 4: what a caller writes into an answer is seen by no later one.
func TestOpenSharesNothing(t *testing.T) {
	s := fresh(t, 600)
	logsIn(t, s, 0)
	logsIn(t, s, 1)
	list := s.Open()
	list[0] = 7
	_ = append(list[:1], 9)
	open(t, s, 0, 1)
}
