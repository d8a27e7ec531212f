package serial

import (
	"slices"
	"testing"

	"lapidary/api"
	"lapidary/sweep"
	"lapidary/value"
)

// asTheStore asks that the table of a model that is no copy is its store's, in all.
func asTheStore(t *testing.T, m *Model) {
	t.Helper()
	a, b := m.Table(), m.world.Store().Table()
	if a.First() != b.First() || a.Last() != b.Last() || m.Last() != b.Last() || !slices.Equal(a.Free(api.MaxOops), b.Free(api.MaxOops)) {
		t.Fatalf("it is from %d to %d, and the store's from %d to %d", a.First(), a.Last(), b.First(), b.Last())
	}
	for oop := int64(-1); oop <= api.MaxOops+1; oop++ {
		if a.Changed(oop) != b.Changed(oop) {
			t.Fatalf("the object %d was changed by %d, and by the store %d", oop, a.Changed(oop), b.Changed(oop))
		}
		for commit := a.First(); commit <= a.Last(); commit++ {
			o, err := a.At(commit, oop)
			if p, err2 := b.At(commit, oop); err != err2 || !value.Same(o, p) {
				t.Fatalf("the object %d is another one behind %d", oop, commit)
			}
		}
	}
}

// P23.1: Table is the store's table behind each change: commits that make, change and leave out, those without changes, sweeps, and all of that behind a log that was written anew.
func TestTableIsTheStores(t *testing.T) {
	m, _ := New()
	asTheStore(t, m)
	tell(t, m, api.Event{Kind: api.EvLogin}, api.Reply{})
	anew := 0
	for round := range 120 {
		ask(t, m, "Root at: #a put: 'text'; at: #b put: (String new: 800). (Root at: #a) at: 1 put: 65")
		room := m.world.Store().Room()
		commits(t, m)
		if m.world.Store().Room() > room {
			anew++
		}
		asTheStore(t, m)
		if round%17 != 16 {
			continue
		}
		tell(t, m, api.Event{Kind: api.EvCommit}, api.Reply{N: m.Last()})
		asTheStore(t, m)
		tell(t, m, api.Event{Kind: api.EvLogout}, api.Reply{})
		lost := sweep.Lost(m.Table())
		tell(t, m, api.Event{Kind: api.EvSweep}, api.Reply{N: int64(len(lost))})
		asTheStore(t, m)
		if len(lost) == 0 || m.Table().Changed(lost[0]) != m.Last() {
			t.Fatal("who let it go?")
		}
		tell(t, m, api.Event{Kind: api.EvSweep}, api.Reply{})
		asTheStore(t, m)
		tell(t, m, api.Event{Kind: api.EvLogin}, api.Reply{})
	}
	if anew < 2 {
		t.Error("the log was written anew", anew)
	}
}
