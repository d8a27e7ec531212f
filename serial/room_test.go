package serial

import (
	"testing"

	"lapidary/api"
)

// tell asks that a step can be.
func tell(t *testing.T, m *Model, e api.Event, r api.Reply) {
	t.Helper()
	if !m.Step(e, r) {
		t.Fatalf("%+v: %+v can not be", e, r)
	}
}

// ask lets the session 0 run a source that answers nil.
func ask(t *testing.T, m *Model, source string) {
	t.Helper()
	tell(t, m, api.Event{Kind: api.EvAsk, Text: source + ". nil"}, api.Reply{})
	tell(t, m, api.Event{Kind: api.EvRun, N: 9000}, api.Reply{Text: "nil", N: 1})
}

func commits(t *testing.T, m *Model) {
	t.Helper()
	tell(t, m, api.Event{Kind: api.EvCommit}, api.Reply{N: m.Last() + 1})
}

// withRoom is a model with a session, in whose log just so many sectors are free.
func withRoom(t *testing.T, room int) *Model {
	t.Helper()
	m, err := New()
	if err != api.OK {
		t.Fatal(err)
	}
	tell(t, m, api.Event{Kind: api.EvLogin}, api.Reply{})
	for m.world.Store().Room() > room {
		ask(t, m, "Root at: #x put: 'a'")
		commits(t, m)
	}
	if m.world.Store().Room() != room {
		t.Fatalf("there are %d sectors free", m.world.Store().Room())
	}
	return m
}

// long is a source whose commit takes more than 300 sectors.
const long = "1 to: 34 do: [:i | Root at: i put: (String new: 1000)]"

// P23.1: a commit that finds fewer than 300 sectors free writes all anew ahead of it, and only then.
func TestRoom(t *testing.T) {
	m := withRoom(t, 300)
	ask(t, m, long)
	if m.Step(api.Event{Kind: api.EvCommit}, api.Reply{N: m.Last() + 1}) {
		t.Error("300 sectors are too few for it, but not so few that all is written anew")
	}
	m = withRoom(t, 299)
	ask(t, m, long)
	commits(t, m)
	m = withRoom(t, 300)
	ask(t, m, "Root at: #x put: 'b'")
	commits(t, m)
	if room := m.world.Store().Room(); room != 299 {
		t.Errorf("there are %d sectors free", room)
	}
	tell(t, m, api.Event{Kind: api.EvCommit}, api.Reply{N: m.Last()}) // though it changes nothing
	if room := m.world.Store().Room(); room < 300 {
		t.Errorf("there are %d sectors free", room)
	}
}

// P23.1: of a sweep, likewise.
func TestRoomForASweep(t *testing.T) {
	for _, room := range []int{300, 299} {
		m := withRoom(t, room)
		tell(t, m, api.Event{Kind: api.EvLogout}, api.Reply{})
		tell(t, m, api.Event{Kind: api.EvSweep}, api.Reply{N: m.Last() - 2}) // each text but the last one
		if now := m.world.Store().Room(); (now > room) != (room < 300) {
			t.Errorf("of %d sectors there are %d free", room, now)
		}
		tell(t, m, api.Event{Kind: api.EvSweep}, api.Reply{})
	}
}

// P23.1: where all is too long to be written anew, and nothing more goes into the log, no change can be, whatever its number.
func TestNoRoom(t *testing.T) {
	m := withRoom(t, 400)
	for _, source := range []string{"Root at: #x put: (String new: 1000)", "Root at: #x put: 'a'"} {
		for c := m.Copy(); ; c = m.Copy() {
			ask(t, c, source)
			if !c.Step(api.Event{Kind: api.EvCommit}, api.Reply{N: c.Last() + 1}) {
				break
			}
			ask(t, m, source)
			commits(t, m)
		}
	}
	if m.world.Store().Room() != 0 {
		t.Errorf("there are %d sectors free", m.world.Store().Room())
	}
	for n := range m.Last() {
		c := m.Copy()
		ask(t, c, "Root at: #x put: 'a'")
		if c.Step(api.Event{Kind: api.EvCommit}, api.Reply{N: n}) {
			t.Errorf("a commit with %d can be", n)
		}
	}
	tell(t, m, api.Event{Kind: api.EvCommit}, api.Reply{N: m.Last()})
	tell(t, m, api.Event{Kind: api.EvLogout}, api.Reply{})
	for n := range m.Last() {
		if m.Copy().Step(api.Event{Kind: api.EvSweep}, api.Reply{N: n}) {
			t.Errorf("a sweep with %d can be", n)
		}
	}
}

// P23.1: it goes on for as many commits as there may be; a copy behind any of them is as it is.
func TestManyCommits(t *testing.T) {
	m := withRoom(t, 400)
	ask(t, m, "Root at: #x put: (String new: 900)")
	commits(t, m)
	for i := range 150 {
		ask(t, m, "(Root at: #x) at: 1 put: 65")
		if i%10 == 0 {
			c := m.Copy()
			commits(t, c)
			if c.world.Store().Room() >= m.world.Store().Room() && m.world.Store().Room() >= roomy {
				t.Error("the copy has another log")
			}
			if c.Last() != m.Last()+1 || c.steps.Load() != m.steps.Load()+1 {
				t.Error("the copy has other steps")
			}
		}
		commits(t, m)
		if c := m.Copy(); c.Last() != m.Last() || c.Table().First() != m.Table().First() || c.world.Store().Room() != m.world.Store().Room() {
			t.Errorf("a copy is behind %d, not %d", c.Last(), m.Last())
		}
	}
	tell(t, m, api.Event{Kind: api.EvLogout}, api.Reply{})
	for _, x := range []*Model{m, m.Copy()} {
		tell(t, x, api.Event{Kind: api.EvSweep}, api.Reply{N: int64(599 - 18 - 400)}) // one of each of the first commits
	}
}

// P23.1: the sessions that do what was asked are closed, whatever came of them.
func TestNobodyStays(t *testing.T) {
	m := withRoom(t, 570)
	for range 2 * api.MaxSessions {
		tell(t, m, api.Event{Kind: api.EvCommit}, api.Reply{N: m.Last()})
	}
	if m.world.Open() != 0 {
		t.Errorf("%d are open", m.world.Open())
	}
	w := m.world
	tell(t, m, api.Event{Kind: api.EvAsk, Text: "3"}, api.Reply{N: 1})
	if m.Step(api.Event{Kind: api.EvCommit}, api.Reply{N: m.Last()}) || w.Open() != 0 {
		t.Errorf("%d are open", w.Open())
	}
}

// The steps that could be are counted.
func TestSteps(t *testing.T) {
	m, _ := New()
	for n := range int64(5) {
		if m.steps.Load() != n {
			t.Errorf("%d steps, not %d", m.steps.Load(), n)
		}
		tell(t, m, api.Event{Kind: api.EvFail}, api.Reply{})
	}
	for range 3 {
		m.Step(api.Event{Kind: api.EvCrash}, api.Reply{})
	}
	if m.steps.Load() != 5 || m.Copy().steps.Load() != 5 {
		t.Errorf("%d steps", m.steps.Load())
	}
}
