package serial_test

import (
	"slices"
	"testing"

	"lapidary/api"
	"lapidary/serial"
	"lapidary/server"
	"lapidary/sweep"
	"lapidary/table"
	"lapidary/value"
)

// enough is more steps than any source of the tests takes that is to end.
const enough = 20000

// told is a step and its reply.
type told struct {
	e api.Event
	r api.Reply
}

// by is a step of a session, and its reply.
func by(who, kind int, r api.Reply) told { return told{api.Event{Kind: kind, Who: who}, r} }

func login(n int64) told { return by(0, api.EvLogin, number(n)) }

func commit(who int, n int64) told { return by(who, api.EvCommit, number(n)) }

func asking(who int, source string, r api.Reply) told {
	return told{api.Event{Kind: api.EvAsk, Who: who, Text: source}, r}
}

func running(who, n int, r api.Reply) told {
	return told{api.Event{Kind: api.EvRun, Who: who, N: n}, r}
}

func number(n int64) api.Reply { return api.Reply{N: n} }

func failed(err api.Errno) api.Reply { return api.Reply{Err: err} }

// does is a source that a session is asked and runs to its end.
func does(who int, source, text string) []told {
	return []told{asking(who, source, api.Reply{}), running(who, enough, api.Reply{Text: text, N: 1})}
}

// steps puts steps and lists of them one behind the other.
func steps(parts ...any) []told {
	var out []told
	for _, p := range parts {
		switch p := p.(type) {
		case told:
			out = append(out, p)
		case []told:
			out = append(out, p...)
		}
	}
	return out
}

// put is a script by which a session begins and puts 1 into the root.
func put() []told {
	return steps(login(0), does(0, "Root at: #x put: 1", "1"))
}

// lost is a script by which something is lost: an Array and the three objects in it. The last commit is 3.
func lost() []told {
	return steps(login(0), does(0, "Root at: #x put: #('a' 'b' 'c'). nil", "nil"), commit(0, 2),
		does(0, "Root at: #x put: 1", "1"), commit(0, 3))
}

func fresh(t testing.TB) *serial.Model {
	t.Helper()
	m, err := serial.New()
	if err != api.OK || m == nil {
		t.Fatalf("New = %v, %d", m, err)
	}
	return m
}

// behind is a model that was told these steps, each of which can be.
func behind(t testing.TB, list []told) *serial.Model {
	t.Helper()
	m := fresh(t)
	can(t, m, list...)
	return m
}

func can(t testing.TB, m *serial.Model, list ...told) {
	t.Helper()
	for _, x := range list {
		if !m.Step(x.e, x.r) {
			t.Errorf("%+v: %+v can not be", x.e, x.r)
		}
	}
}

// all is how a model is, as far as it can be seen.
type all struct {
	last, first int64
	open        []int
	now         value.Record
	changed     [api.MaxOops + 2]int64
}

func look(m *serial.Model) all {
	a := all{last: m.Last(), first: m.Table().First(), open: m.Open(), now: m.Table().All()}
	for oop, x := 0, m.Table(); oop < len(a.changed); oop++ {
		a.changed[oop] = x.Changed(int64(oop))
	}
	return a
}

func (a all) same(b all) bool {
	return a.last == b.last && a.first == b.first && slices.Equal(a.open, b.open) && sameRecord(a.now, b.now) && a.changed == b.changed
}

// cannot asks that a step can not be, that it changes nothing, and that nothing can be behind it.
func cannot(t testing.TB, m *serial.Model, x told) {
	t.Helper()
	before := look(m)
	if m.Step(x.e, x.r) {
		t.Errorf("%+v: %+v can be", x.e, x.r)
	}
	isClosed(t, m)
	if !look(m).same(before) {
		t.Errorf("%+v: %+v can not be, and has changed something", x.e, x.r)
	}
}

// isClosed asks that nothing can be.
func isClosed(t testing.TB, m *serial.Model) {
	t.Helper()
	for _, kind := range kinds() {
		for _, r := range []api.Reply{{}, number(1), number(3), failed(api.ErrArg), failed(api.ErrNone), failed(api.ErrState)} {
			if m.Step(api.Event{Kind: kind}, r) {
				t.Errorf("behind what can not be the kind %d can be: %+v", kind, r)
			}
		}
	}
}

// kinds are all kinds of steps that there are, and some that there are not.
func kinds() []int {
	return []int{0, api.EvLogin, api.EvAsk, api.EvRun, api.EvCommit, api.EvAbort, api.EvLogout, api.EvCrash, api.EvFail, api.EvCheckpoint, api.EvSweep, 11}
}

// is asks for the last commit, and for which sessions there are.
func is(t testing.TB, m *serial.Model, last int64, open ...int) {
	t.Helper()
	if m.Last() != last || m.Table().Last() != last || !slices.Equal(m.Open(), open) {
		t.Errorf("behind %d, and by its table %d, with %v; want %d, %v", m.Last(), m.Table().Last(), m.Open(), last, open)
	}
}

func sameRecord(r, s value.Record) bool {
	return r.Commit == s.Commit && slices.EqualFunc(r.Changes, s.Changes, func(x, y value.Change) bool {
		return x.Oop == y.Oop && x.Gone == y.Gone && value.Same(x.Obj, y.Obj)
	})
}

// sameReached asks that all that is reached is the same, but for oops.
func sameReached(t testing.TB, m *serial.Model, other *table.Table) {
	t.Helper()
	if m.Last() != other.Last() || !sameRecord(sweep.Dump(m.Table()), sweep.Dump(other)) {
		t.Errorf("behind %d and %d what is reached is not the same", m.Last(), other.Last())
	}
}

func served(t testing.TB, sectors int) *server.Server {
	t.Helper()
	s, err := server.New(sectors)
	if err != api.OK {
		t.Fatalf("a server of %d sectors: %d", sectors, err)
	}
	return s
}
