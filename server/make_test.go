package server_test

import (
	"slices"
	"testing"

	"lapidary/api"
	"lapidary/server"
	"lapidary/sweep"
	"lapidary/value"
)

// enough is more steps than any source of the tests takes that is to end.
const enough = 20000

// kinds are all kinds of steps that there are.
func kinds() []int {
	return []int{api.EvLogin, api.EvAsk, api.EvRun, api.EvCommit, api.EvAbort, api.EvLogout, api.EvCrash, api.EvFail, api.EvCheckpoint, api.EvSweep}
}

func fresh(t testing.TB, sectors int) *server.Server {
	t.Helper()
	s, err := server.New(sectors)
	if err != api.OK || s == nil {
		t.Fatalf("New(%d) = %v, %d", sectors, s, err)
	}
	return s
}

// step is a step of a kind alone.
func step(kind int) api.Event { return api.Event{Kind: kind} }

// by is a step of a session.
func by(who, kind int) api.Event { return api.Event{Kind: kind, Who: who} }

func asking(who int, source string) api.Event {
	return api.Event{Kind: api.EvAsk, Who: who, Text: source}
}

func running(who, n int) api.Event { return api.Event{Kind: api.EvRun, Who: who, N: n} }

func failing(n int) api.Event { return api.Event{Kind: api.EvFail, N: n} }

func crashing(n int, keep ...bool) api.Event {
	return api.Event{Kind: api.EvCrash, N: n, Keep: keep}
}

// replies asks for just this reply.
func replies(t testing.TB, s *server.Server, e api.Event, want api.Reply) {
	t.Helper()
	steps := s.Steps()
	if got := s.Do(e); got != want {
		t.Errorf("%+v: %+v, want %+v", e, got, want)
	}
	if s.Steps() != steps+1 {
		t.Errorf("%+v: %d steps, then %d", e, steps, s.Steps())
	}
}

func goes(t testing.TB, s *server.Server, e api.Event) {
	t.Helper()
	replies(t, s, e, api.Reply{})
}

func logsIn(t testing.TB, s *server.Server, number int64) {
	t.Helper()
	replies(t, s, step(api.EvLogin), api.Reply{N: number})
}

// say asks a source of a session and lets it run to its end.
func say(t testing.TB, s *server.Server, who int, source string) api.Reply {
	t.Helper()
	goes(t, s, asking(who, source))
	return s.Do(running(who, enough))
}

func says(t testing.TB, s *server.Server, who int, source, text string) {
	t.Helper()
	if r := say(t, s, who, source); r != (api.Reply{Text: text, N: 1}) {
		t.Errorf("%q: %+v, want %q", source, r, text)
	}
}

func fails(t testing.TB, s *server.Server, who int, source, failure string) {
	t.Helper()
	if r := say(t, s, who, source); r != (api.Reply{Err: api.ErrArg, Text: failure, N: 1}) {
		t.Errorf("%q: %+v, want %q", source, r, failure)
	}
}

// does runs sources whose values are not shown.
func does(t testing.TB, s *server.Server, who int, sources ...string) {
	t.Helper()
	for _, source := range sources {
		says(t, s, who, source+". nil", "nil")
	}
}

func commits(t testing.TB, s *server.Server, who int, n int64) {
	t.Helper()
	replies(t, s, by(who, api.EvCommit), api.Reply{N: n})
}

// open asks which sessions there are; the server is not down.
func open(t testing.TB, s *server.Server, want ...int) {
	t.Helper()
	if got := s.Open(); !slices.Equal(got, want) || s.Down() || s.Store() == nil {
		t.Errorf("open are %v, down %v, want %v", got, s.Down(), want)
	}
}

// down asks that a server is down, and that each step but EvCrash tells it.
func down(t testing.TB, s *server.Server) {
	t.Helper()
	if !s.Down() || s.Store() != nil || len(s.Open()) != 0 {
		t.Errorf("it is not down: %v %v", s.Down(), s.Open())
	}
	for _, kind := range kinds() {
		if kind != api.EvCrash {
			replies(t, s, by(0, kind), api.Reply{Err: api.ErrDead})
		}
	}
	replies(t, s, step(99), api.Reply{Err: api.ErrArg})
	if !s.Down() {
		t.Error("a step that was refused brought it up")
	}
}

// dump is all that is reached, but for oops.
func dump(s *server.Server) value.Record { return sweep.Dump(s.Store().Table()) }

func sameRecord(r, s value.Record) bool {
	return r.Commit == s.Commit && slices.EqualFunc(r.Changes, s.Changes, func(x, y value.Change) bool {
		return x.Oop == y.Oop && x.Gone == y.Gone && value.Same(x.Obj, y.Obj)
	})
}

// unchanged asks that steps leave the store and the sessions as they are.
func unchanged(t testing.TB, s *server.Server, do func()) {
	t.Helper()
	before, sessions, room := s.Store().Table().All(), s.Open(), s.Store().Room()
	do()
	open(t, s, sessions...)
	if !sameRecord(s.Store().Table().All(), before) || s.Store().Room() != room {
		t.Error("the store is another one")
	}
}
