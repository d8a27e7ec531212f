package keep_test

import (
	"slices"
	"testing"

	"lapidary/api"
	"lapidary/keep"
	"lapidary/server"
	"lapidary/sweep"
	"lapidary/table"
	"lapidary/value"
)

// enough is more steps than any source of the tests takes that is to end.
const enough = 20000

// told is a step and its reply.
type told struct {
	e api.Event
	r api.Reply
}

// by is a step of a session, and its reply.
func by(who, kind int, r api.Reply) told { return told{api.Event{Kind: kind, Who: who}, r} }

// plain is a step of a kind alone, and its reply.
func plain(kind int, r api.Reply) told { return by(0, kind, r) }

func login(n int64) told { return plain(api.EvLogin, number(n)) }

func commit(who int, n int64) told { return by(who, api.EvCommit, number(n)) }

func crash(n int64) told { return plain(api.EvCrash, number(n)) }

func number(n int64) api.Reply { return api.Reply{N: n} }

func failed(err api.Errno) api.Reply { return api.Reply{Err: err} }

// dead is the reply of a device that failed.
func dead() api.Reply { return failed(api.ErrDead) }

// does is a source that a session is asked and runs to its end.
func does(who int, source, text string) []told {
	return []told{
		{api.Event{Kind: api.EvAsk, Who: who, Text: source}, api.Reply{}},
		{api.Event{Kind: api.EvRun, Who: who, N: enough}, api.Reply{Text: text, N: 1}},
	}
}

// put is a script by which a session begins and puts 1 into the root.
func put() []told {
	return append([]told{login(0)}, does(0, "Root at: #x put: 1", "1")...)
}

// lost is a script by which an Array and the three objects in it are lost; nobody is there any more, and the last commit is 3.
func lost() []told {
	return slices.Concat([]told{login(0)}, does(0, "Root at: #x put: #('a' 'b' 'c'). nil", "nil"), []told{commit(0, 2)},
		does(0, "Root at: #x put: 1", "1"), []told{commit(0, 3), plain(api.EvLogout, api.Reply{})})
}

func fresh(t testing.TB) *keep.Ledger {
	t.Helper()
	l, err := keep.New()
	if err != api.OK || l == nil {
		t.Fatalf("New = %v, %d", l, err)
	}
	return l
}

// behind is a ledger that was told these steps, each of which can be.
func behind(t testing.TB, list ...told) *keep.Ledger {
	t.Helper()
	l := fresh(t)
	can(t, l, list...)
	return l
}

func can(t testing.TB, l *keep.Ledger, list ...told) {
	t.Helper()
	for _, x := range list {
		steps := l.Steps()
		if !l.Step(x.e, x.r) {
			t.Errorf("%+v: %+v can not be", x.e, x.r)
		}
		if l.Steps() != steps+1 {
			t.Errorf("%d steps, then %d", steps, l.Steps())
		}
	}
}

// cannot asks that a step can not be behind these ones, that it changes nothing, and that nothing can be behind it.
func cannot(t testing.TB, list []told, x told) {
	t.Helper()
	l := behind(t, list...)
	last, doubt, steps, now := l.Last(), l.Doubt(), l.Steps(), l.Table()
	if l.Step(x.e, x.r) {
		t.Errorf("%+v: %+v can be", x.e, x.r)
	}
	isClosed(t, l)
	if l.Last() != last || l.Doubt() != doubt || l.Steps() != steps || l.Table().First() != now.First() || !sameRecord(l.Table().All(), now.All()) {
		t.Errorf("%+v: %+v can not be, and has changed something", x.e, x.r)
	}
}

// isClosed asks that nothing can be, and that it can not be closed any more.
func isClosed(t testing.TB, l *keep.Ledger) {
	t.Helper()
	for kind := range 12 {
		for _, r := range []api.Reply{{}, number(1), number(2), number(3), failed(api.ErrArg), failed(api.ErrNone), failed(api.ErrState), dead()} {
			if l.Step(api.Event{Kind: kind}, r) {
				t.Errorf("of one that is closed the kind %d can be: %+v", kind, r)
			}
		}
	}
	if l.Close() {
		t.Error("it was closed again")
	}
}

// is asks for the last commit, and whether one more is in doubt.
func is(t testing.TB, l *keep.Ledger, last int64, doubt bool) {
	t.Helper()
	if l.Last() != last || l.Table().Last() != last || l.Doubt() != doubt {
		t.Errorf("behind %d, by its table %d, in doubt %v; want %d, %v", l.Last(), l.Table().Last(), l.Doubt(), last, doubt)
	}
}

// isUp asks by its next steps that a ledger is up, without sessions, and that the root is told so.
func isUp(t testing.TB, l *keep.Ledger, root string) {
	t.Helper()
	last := l.Last()
	is(t, l, last, false)
	for who := range api.MaxSessions {
		can(t, l, by(who, api.EvAbort, failed(api.ErrNone)))
	}
	can(t, l, login(0))
	can(t, l, does(0, "Root", root)...)
	can(t, l, commit(0, last))
	can(t, l, does(0, "Root at: #more put: 1", "1")...)
	can(t, l, commit(0, last+1), plain(api.EvLogout, api.Reply{}))
}

func sameRecord(r, s value.Record) bool {
	return r.Commit == s.Commit && slices.EqualFunc(r.Changes, s.Changes, func(x, y value.Change) bool {
		return x.Oop == y.Oop && x.Gone == y.Gone && value.Same(x.Obj, y.Obj)
	})
}

// sameReached asks that all that is reached is the same, but for oops.
func sameReached(t testing.TB, l *keep.Ledger, other *table.Table) {
	t.Helper()
	if l.Last() != other.Last() || !sameRecord(sweep.Dump(l.Table()), sweep.Dump(other)) {
		t.Errorf("behind %d and %d what is reached is not the same", l.Last(), other.Last())
	}
}

func served(t testing.TB, sectors int) *server.Server {
	t.Helper()
	s, err := server.New(sectors)
	if err != api.OK {
		t.Fatalf("a server of %d sectors: %d", sectors, err)
	}
	return s
}
