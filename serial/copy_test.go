package serial_test

import (
	"fmt"
	"math/rand"
	"slices"
	"testing"

	"lapidary/api"
	"lapidary/serial"
	"lapidary/sweep"
	"lapidary/value"
)

// alike asks that two models are the same in all that can be seen: the last commit that changed each object too, and how all was behind each commit that can be asked.
func alike(t *testing.T, m, c *serial.Model) {
	t.Helper()
	if a, b := look(m), look(c); !a.same(b) {
		for oop := range a.changed {
			if a.changed[oop] != b.changed[oop] {
				t.Errorf("the object %d was changed by %d, and by the other one %d", oop, a.changed[oop], b.changed[oop])
			}
		}
		t.Fatalf("from %d to %d with %v, and the other one from %d to %d with %v", a.first, a.last, a.open, b.first, b.last, b.open)
	}
	x, y := m.Table(), c.Table()
	if !slices.Equal(x.Free(api.MaxOops), y.Free(api.MaxOops)) {
		t.Fatal("behind", m.Last(), "other oops are free")
	}
	for commit := x.First() - 1; commit <= x.Last()+1; commit++ {
		if !slices.Equal(x.Oops(commit), y.Oops(commit)) {
			t.Fatal("there are other objects behind", commit)
		}
		for _, oop := range x.Oops(commit) {
			o, _ := x.At(commit, oop)
			if p, _ := y.At(commit, oop); !value.Same(o, p) {
				t.Fatalf("the object %d is another one behind %d", oop, commit)
			}
		}
	}
}

// busy is what a session does again and again: a long text, so that the log gets full soon, and something small under one of some keys.
func busy(round int) []told {
	return does(0, fmt.Sprintf("Root at: #long put: (String new: %d). Root at: #k%d put: #(%d). nil", 700+round, round%7, round), "nil")
}

// swept are the steps of a sweep, with as many as are lost, and of another one behind it.
func swept(m *serial.Model) []told {
	lost := int64(len(sweep.Lost(m.Table())))
	return []told{by(0, api.EvLogout, api.Reply{}), by(0, api.EvSweep, number(lost)), by(0, api.EvSweep, number(0)), login(0)}
}

// P23.1: a copy is as the model is, though all was written anew since; so is one that goes on, and its own copies. The first model is never copied from another one.
func TestCopyChanged(t *testing.T) {
	m := behind(t, steps(login(0)))
	lines := []*serial.Model{m.Copy(), m.Copy(), m.Copy()}
	both := func(x told) {
		can(t, m, x)
		for i, c := range lines {
			can(t, c, x)
			alike(t, m, c)
			if i > 0 && m.Last()%int64(i*i*i*i) == 0 { // behind each one, behind some, and the first line never again
				lines[i] = c.Copy()
			}
		}
		if t.Failed() {
			t.Fatal("behind", m.Last())
		}
	}
	for round := range 150 {
		for _, x := range busy(round) {
			both(x)
		}
		both(commit(0, m.Last()+1))
		both(commit(0, m.Last()))
		if round%29 == 28 {
			for _, x := range swept(m) {
				both(x)
			}
		}
	}
	if m.Table().Changed(1) != 1 {
		t.Error("the object 1 was changed by", m.Table().Changed(1))
	}
}

// P23.1: what can not be changes nothing of a copy either, and a copy of what is closed is as that is.
func TestCopyOfWhatIsClosed(t *testing.T) {
	m := behind(t, steps(login(0)))
	for round := range 60 {
		can(t, m, busy(round)...)
		can(t, m, commit(0, m.Last()+1))
	}
	can(t, m, busy(60)...)
	c := m.Copy()
	cannot(t, c, commit(0, m.Last()+2))
	alike(t, m, c)
	alike(t, m, c.Copy())
	isClosed(t, c.Copy())
	can(t, m, commit(0, m.Last()+1))
}

// filling are steps behind which nearly as much was written as a model lets stand in its log; a server of 500 sectors has to write all anew on the way, and to sweep.
func filling() []api.Event {
	var out []api.Event
	for round := range 40 {
		out = append(out, api.Event{Kind: api.EvLogin})
		for _, x := range busy(round) {
			out = append(out, x.e)
		}
		out = append(out, api.Event{Kind: api.EvCommit}, api.Event{Kind: api.EvLogout})
		if round%8 == 7 {
			out = append(out, api.Event{Kind: api.EvSweep}, api.Event{Kind: api.EvCheckpoint})
		}
	}
	return out
}

// P23.1: whatever a server replies, copies that are made on the way go on as the model does.
func TestCopiesOfAnyScript(t *testing.T) {
	changed := 0
	for seed := range int64(25) {
		r := rand.New(rand.NewSource(seed))
		s, m := served(t, 500), fresh(t)
		c := m.Copy()
		for _, e := range append(filling(), script(r, 300)...) {
			x := told{e, s.Do(e)}
			can(t, m, x)
			can(t, c, x)
			if e.Kind == api.EvCommit || e.Kind == api.EvSweep {
				alike(t, m, c)
				changed++
			}
			if r.Intn(20) == 0 {
				c = c.Copy()
			}
			if t.Failed() {
				t.Fatalf("with the seed %d: %+v", seed, e)
			}
		}
	}
	if changed < 2000 {
		t.Error("only", changed)
	}
}
