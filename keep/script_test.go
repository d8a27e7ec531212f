package keep_test

import (
	"fmt"
	"math"
	"math/rand"
	"slices"
	"testing"

	"lapidary/api"
	"lapidary/keep"
	"lapidary/server"
)

// someSource is a source that reads, writes, makes, counts or fails.
func someSource(r *rand.Rand) string {
	forms := []string{
		"Root at: %[1]s put: %[2]d", "Root at: %[1]s put: #(%[2]d #x 'y')", "Root at: %[1]s put: 'text'", "Root at: %[1]s put: (String new: 200)",
		"Root at: %[1]s put: 2%[2]d factorial", "Root at: %[1]s put: Dictionary new", "(Root at: %[1]s) at: %[2]d put: (Root at: #a)",
		"Root at: #c put: RcCounter new. Root at: #b put: RcBag new. nil", "(Root at: #c) increment: %[2]d. nil", "(Root at: #b) add: %[2]d. nil",
		"(Root at: #b) remove: %[2]d. nil", "(Root at: #c) value", "Root", "Root size", "Root at: %[1]s", "Root removeKey: %[1]s",
		"Object subclass: #P slots: 'x'. P compile: 'x ^x'. P compile: 'x: n x := n'", "Root at: %[1]s put: P new", "(Root at: %[1]s) x: %[2]d; x",
		"1 / 0", "[Root at: %[1]s put: 1. 1 / 0] ensure: [Root at: #a put: 0]", "[true] whileTrue: [Root at: %[1]s]", "a ]",
	}
	key := []string{"#a", "#b", "#c", "4"}[r.Intn(4)]
	return fmt.Sprintf(forms[r.Intn(len(forms))]+"%[3]s", key, r.Intn(6), "")
}

// someEvent is a step as it may come, with crashes and failing writes.
func someEvent(r *rand.Rand) api.Event {
	who := r.Intn(3)
	if r.Intn(40) == 0 {
		who = r.Intn(9) - 2
	}
	switch k := r.Intn(100); {
	case k < 16:
		return api.Event{Kind: api.EvLogin}
	case k < 48:
		return api.Event{Kind: api.EvAsk, Who: who, Text: someSource(r)}
	case k < 54:
		return api.Event{Kind: api.EvRun, Who: who, N: []int{enough, 3, 0, -1}[r.Intn(4)]}
	case k < 84:
		return api.Event{Kind: api.EvCommit, Who: who}
	case k < 89:
		return api.Event{Kind: []int{api.EvAbort, api.EvLogout}[r.Intn(2)], Who: who}
	case k < 91:
		return api.Event{Kind: []int{api.EvCheckpoint, api.EvSweep}[r.Intn(2)]}
	case k < 97:
		return api.Event{Kind: api.EvFail, N: r.Intn(5) - 1}
	case k < 99:
		return someCrash(r)
	}
	return api.Event{Kind: []int{0, -1, 11, 99, math.MaxInt, math.MinInt}[r.Intn(6)], Who: who}
}

// someCrash is a crash at which nothing, all or something stays; recovering may fail too.
func someCrash(r *rand.Rand) api.Event {
	e := api.Event{Kind: api.EvCrash, N: max(0, r.Intn(8)-4)}
	stays := r.Intn(3)
	for range r.Intn(40) {
		e.Keep = append(e.Keep, stays == 0 || stays == 1 && r.Intn(2) == 0)
	}
	return e
}

// some is a few steps; what is asked is mostly run to its end right behind, and who is down is mostly crashed. Now and then what is lost is swept behind a crash.
func some(r *rand.Rand, down bool) []api.Event {
	e := someEvent(r)
	if down && r.Intn(3) > 0 {
		e = someCrash(r)
	}
	out := []api.Event{e}
	if e.Kind == api.EvAsk && r.Intn(4) > 0 {
		out = append(out, api.Event{Kind: api.EvRun, Who: e.Who, N: enough})
	}
	if e.Kind == api.EvCrash && r.Intn(2) == 0 {
		out = append(out, api.Event{Kind: api.EvFail, N: r.Intn(3)}, api.Event{Kind: api.EvSweep})
	}
	return out
}

// script is so many steps or some more, of a server that is always up.
func script(r *rand.Rand, n int) []api.Event {
	var out []api.Event
	for len(out) < n {
		out = append(out, some(r, false)...)
	}
	return out
}

// tally is how much there was of each kind.
type tally struct {
	died                map[int]int
	ups, swept, doubted int
}

// follow does a step of a server, tells it to a ledger, and asks that both are the same.
func (c *tally) follow(t *testing.T, s *server.Server, l *keep.Ledger, e api.Event) {
	t.Helper()
	wasDown := s.Down()
	x := s.Do(e)
	can(t, l, told{e, x})
	if !wasDown && s.Down() {
		c.died[e.Kind]++
	}
	if e.Kind == api.EvSweep {
		c.swept += int(x.N)
	}
	if l.Doubt() {
		c.doubted++
	}
	if s.Down() {
		return
	}
	c.ups++
	is(t, l, s.Store().Last(), false)
	if e.Kind != api.EvAsk && e.Kind != api.EvRun {
		sameReached(t, l, s.Store().Table())
	}
}

// P24.3, P24.4, P3: whatever the script, all replies of a server can be; whenever it is up, all that is reached is the same, and nothing is in doubt.
func TestNothingIsLost(t *testing.T) {
	c := &tally{died: map[int]int{}}
	for seed := range int64(120) {
		r := rand.New(rand.NewSource(seed))
		s, l := served(t, []int{44, 60, 80, 150, 60 + r.Intn(441)}[seed%5]), fresh(t)
		for l.Steps() < 300 {
			for _, e := range some(r, s.Down()) {
				if c.follow(t, s, l, e); t.Failed() {
					t.Fatalf("with the seed %d: %+v", seed, e)
				}
			}
		}
	}
	if c.died[api.EvCommit] < 100 || c.died[api.EvSweep] < 20 || c.died[api.EvCheckpoint] < 20 || c.died[api.EvCrash] < 20 || c.ups < 9000 || c.swept < 60 || c.doubted < 100 {
		t.Errorf("too few of a kind: %+v", *c)
	}
}

// P24.3, without crashes.
func TestWithoutCrashes(t *testing.T) {
	for seed := range int64(30) {
		r := rand.New(rand.NewSource(seed))
		s, l := served(t, 44+r.Intn(457)), fresh(t)
		for _, e := range script(r, 200) {
			if e.Kind == api.EvCrash || e.Kind == api.EvFail {
				continue
			}
			can(t, l, told{e, s.Do(e)})
			sameReached(t, l, s.Store().Table())
			is(t, l, s.Store().Last(), false)
			if t.Failed() {
				t.Fatalf("with the seed %d: %+v", seed, e)
			}
		}
	}
}

// P24.3, P24.4: a server that dies right behind a commit or a sweep, ahead of telling it: what was done is there, and can be.
func TestDoneAndNotTold(t *testing.T) {
	done := map[int]int{}
	for seed := range int64(60) {
		r := rand.New(rand.NewSource(seed))
		s, l := served(t, 500), fresh(t)
		do := func(e api.Event) {
			last := s.Store().Last()
			x := s.Do(e)
			if s.Store().Last() > last && r.Intn(2) == 0 {
				done[e.Kind]++
				can(t, l, told{e, dead()})
				is(t, l, last, true)
				e = api.Event{Kind: api.EvCrash}
				x = s.Do(e)
			}
			can(t, l, told{e, x})
			sameReached(t, l, s.Store().Table())
			if is(t, l, s.Store().Last(), false); t.Failed() {
				t.Fatalf("with the seed %d: %+v", seed, e)
			}
		}
		for _, e := range script(r, 300) {
			if e.Kind == api.EvFail || e.Kind == api.EvCrash {
				e = api.Event{Kind: api.EvCheckpoint}
			}
			if do(e); r.Intn(30) == 0 { // all sessions are gone, and what is lost can be swept
				do(api.Event{Kind: api.EvCrash})
				do(api.Event{Kind: api.EvSweep})
			}
		}
	}
	if done[api.EvCommit] < 100 || done[api.EvSweep] < 10 {
		t.Error("too few of a kind", done)
	}
}

// record is a script, the replies of a server, and whether a commit was in doubt ahead of each.
func record(t *testing.T, r *rand.Rand) (list []api.Event, replies []api.Reply, doubt []bool) {
	t.Helper()
	s, l := served(t, 300), fresh(t)
	for len(list) < 200 {
		for _, e := range some(r, s.Down()) {
			x := s.Do(e)
			list, replies, doubt = append(list, e), append(replies, x), append(doubt, l.Doubt())
			l.Step(e, x)
		}
	}
	return list, replies, doubt
}

// P24.2, P24.3: a server that has lost a commit that it told, or has one that nobody asked for, is found out at its next crash.
func TestWrongRepliesAreFound(t *testing.T) {
	found := 0
	for seed := range int64(60) {
		r := rand.New(rand.NewSource(seed))
		list, replies, doubt := record(t, r)
		if n, ok := keep.Check(list, replies); n != len(list) || !ok {
			t.Fatalf("Check = %d, %v, with the seed %d", n, ok, seed)
		}
		for i, e := range list {
			if e.Kind != api.EvCrash || replies[i].Err != api.OK {
				continue
			}
			for _, by := range []int64{-1, 1, 2} {
				bad := slices.Clone(replies)
				bad[i].N += by
				if by == 1 && doubt[i] {
					continue
				}
				if n, ok := keep.Check(list, bad); n != i || ok {
					t.Fatalf("with the seed %d and %+v in the place of %+v at %d: Check = %d, %v", seed, bad[i], replies[i], i, n, ok)
				}
				found++
			}
		}
	}
	if found < 500 {
		t.Error("only", found)
	}
}

// P7: whatever the steps and the replies, a ledger tells something.
func TestAnything(t *testing.T) {
	numbers := []int{0, 1, 2, 3, -1, 4, 7, 2000, math.MaxInt, math.MinInt, 1 << 32}
	for seed := range int64(300) {
		r := rand.New(rand.NewSource(seed))
		l, could := fresh(t), int64(0)
		for range 60 {
			e := someEvent(r)
			if r.Intn(5) == 0 {
				e = api.Event{Kind: numbers[r.Intn(len(numbers))], Who: numbers[r.Intn(len(numbers))], Text: "\xff\x00", Keep: []bool{true}}
			}
			x := api.Reply{Err: api.Errno(r.Intn(34) - 1), Text: someSource(r), At: numbers[r.Intn(len(numbers))], N: int64(numbers[r.Intn(len(numbers))])}
			switch r.Intn(4) {
			case 0, 1:
				x = api.Reply{N: int64(r.Intn(4))}
			case 2:
				x = dead()
			}
			if l.Step(e, x) {
				could++
			}
			if l.Steps() != could || l.Last() != l.Table().Last() {
				t.Fatal("with the seed", seed)
			}
		}
	}
}

// Example 7 of the whole: of a commit whose second sector fails nothing is there; and a ledger takes both for what can be.
func TestExample7(t *testing.T) {
	for _, stays := range []bool{false, true} {
		s, l := served(t, 500), fresh(t)
		do := func(e api.Event) api.Reply {
			x := s.Do(e)
			can(t, l, told{e, x})
			return x
		}
		do(api.Event{Kind: api.EvLogin})
		do(api.Event{Kind: api.EvAsk, Text: "Root at: #x put: (String new: 200)"})
		do(api.Event{Kind: api.EvRun, N: enough})
		do(api.Event{Kind: api.EvFail, N: 2})
		if x := do(api.Event{Kind: api.EvCommit}); x != dead() {
			t.Errorf("the commit: %+v", x)
		}
		is(t, l, 1, true)
		do(api.Event{Kind: api.EvCrash, Keep: []bool{stays, stays}})
		is(t, l, 1, false)
		sameReached(t, l, s.Store().Table())
	}
}
