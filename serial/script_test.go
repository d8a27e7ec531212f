package serial_test

import (
	"fmt"
	"math"
	"math/rand"
	"slices"
	"testing"

	"lapidary/api"
	"lapidary/serial"
)

// someSource is a source that reads, writes, makes, defines, counts, fails or goes on for long.
func someSource(r *rand.Rand) string {
	forms := []string{
		"Root at: %[1]s put: %[2]d", "Root at: %[1]s put: #(%[2]d #x 'y')", "Root at: %[1]s put: 'text'",
		"Root at: %[1]s put: RcCounter new", "Root at: %[1]s put: RcBag new. nil", "Root at: %[1]s put: Dictionary new",
		"Root at: %[1]s put: 2%[2]d factorial", "Root at: %[1]s put: (%[2]d im: 3)", "Root at: %[1]s put: (String new: 300)",
		"Root at: %[1]s", "Root", "Root size", "Root includesKey: %[1]s", "Root removeKey: %[1]s", "Root keys",
		"(Root at: %[1]s) at: %[2]d put: (Root at: #a)", "(Root at: %[1]s) at: %[2]d put: 65. nil", "(Root at: %[1]s) size",
		"(Root at: %[1]s) = (Root at: #a)", "(Root at: %[1]s) == (Root at: #a)", "(Root at: %[1]s) collect: [:e | e = %[2]d]",
		"(Root at: %[1]s) increment: %[2]d. nil", "(Root at: %[1]s) decrement: %[2]d. nil", "(Root at: %[1]s) increment: %[2]d",
		"(Root at: #c) increment: %[2]d. nil", "(Root at: #c) increment: %[2]d. nil", "(Root at: #b) add: %[2]d. nil", "(Root at: #b) remove: %[2]d. nil",
		"(Root at: %[1]s) value", "(Root at: %[1]s) add: %[2]d. nil", "(Root at: %[1]s) remove: %[2]d. nil", "(Root at: %[1]s) count: %[2]d",
		"(Root at: %[1]s) add: %[2]d; add: 'new'; remove: %[2]d. nil", "Root at: #c put: RcCounter new. Root at: #b put: RcBag new. nil",
		"Object subclass: #P slots: 'x'. P compile: 'x ^x'. P compile: 'x: n x := n'", "P compile: 'twice ^x + %[2]d'", "Root at: %[1]s put: P new",
		"(Root at: %[1]s) x: %[2]d; x", "(Root at: %[1]s) twice", "(Root at: %[1]s) x: self; yourself", "Root at: %[1]s put: (Root at: #b)",
		"1 / 0", "nil error: 'own'", "[Root at: %[1]s put: 8. 1 / 0] onError: [:e | e]", "[Root at: %[1]s put: 1. 1 / 0] ensure: [Root at: #a put: 0]",
		"[:x | x]", "[true] whileTrue: [Root at: %[1]s]", "Array compile: 'second ^self at: 2'", "(Root at: %[1]s) second", "a ]", "Root at: ", "", "(",
	}
	key := []string{"#a", "#b", "#c", "'c'", "4"}[r.Intn(5)]
	return fmt.Sprintf(forms[r.Intn(len(forms))]+"%[3]s", key, r.Intn(6), "")
}

// someEvent is a step as it may come, but no crash.
func someEvent(r *rand.Rand) api.Event {
	who := r.Intn(3)
	if r.Intn(40) == 0 {
		who = r.Intn(9) - 2
	}
	kind := api.EvAsk
	switch k := r.Intn(100); {
	case k < 12:
		kind = api.EvLogin
	case k < 45:
		return api.Event{Kind: kind, Who: who, Text: someSource(r)}
	case k < 60:
		return api.Event{Kind: api.EvRun, Who: who, N: []int{enough, enough, enough, 3, 0, 40, -1}[r.Intn(7)]}
	case k < 86:
		kind = api.EvCommit
	case k < 92:
		kind = api.EvAbort
	case k < 95:
		kind = api.EvLogout
	case k < 97:
		kind = api.EvCheckpoint
	case k < 99:
		kind = api.EvSweep
	default:
		kind = []int{0, -1, 11, 99, math.MaxInt, math.MinInt}[r.Intn(6)]
	}
	return api.Event{Kind: kind, Who: who}
}

// script is so many steps; what is asked is mostly run to its end right behind. Now and then all sessions end, and what is lost is swept.
func script(r *rand.Rand, n int) []api.Event {
	var out []api.Event
	for len(out) < n {
		e := someEvent(r)
		out = append(out, e)
		if e.Kind == api.EvAsk && r.Intn(4) > 0 {
			out = append(out, api.Event{Kind: api.EvRun, Who: e.Who, N: enough})
		}
		if r.Intn(60) == 0 {
			for who := range api.MaxSessions {
				out = append(out, api.Event{Kind: api.EvLogout, Who: who})
			}
			out = append(out, api.Event{Kind: api.EvSweep})
		}
	}
	return out
}

// P23.3, P1, P2: whatever the script without crashes, all replies of a server can be, and all that is reached is the same.
func TestAsIfAlone(t *testing.T) {
	count := map[api.Errno]int{}
	swept := 0
	for seed := range int64(120) {
		r := rand.New(rand.NewSource(seed))
		s, m := served(t, []int{44, 60, 80, 150, 500}[seed%5]), fresh(t)
		for _, e := range script(r, 300) {
			x := s.Do(e)
			can(t, m, told{e, x})
			switch e.Kind {
			case api.EvCommit:
				count[x.Err]++
				sameReached(t, m, s.Store().Table())
			case api.EvSweep:
				swept += int(x.N)
				sameReached(t, m, s.Store().Table())
			}
			if !slices.Equal(m.Open(), s.Open()) {
				t.Errorf("open are %v, not %v", m.Open(), s.Open())
			}
			if t.Failed() {
				t.Fatalf("with the seed %d: %+v", seed, e)
			}
		}
	}
	if count[api.OK] < 1000 || count[api.ErrClash] < 100 || count[api.ErrFull] < 20 || swept < 60 {
		t.Error("too few of a kind", count, swept)
	}
}

// P23.3: with failing writes, all replies can be up to the commit, the sweep or the checkpoint at which the device died.
func TestAsIfAloneTillItDies(t *testing.T) {
	died := map[int]int{}
	for seed := range int64(120) {
		r := rand.New(rand.NewSource(seed))
		s, m := served(t, 60+r.Intn(441)), fresh(t)
		for _, e := range script(r, 150) {
			if odds := map[int]int{api.EvSweep: 2, api.EvCommit: 20, api.EvCheckpoint: 9}[e.Kind]; odds > 0 && r.Intn(odds) == 0 {
				f := api.Event{Kind: api.EvFail, N: r.Intn(4)}
				can(t, m, told{f, s.Do(f)})
			}
			x := s.Do(e)
			if x.Err == api.ErrDead {
				died[e.Kind]++
				can(t, m, told{e, x}) // though nobody promises what follows
				break
			}
			if can(t, m, told{e, x}); t.Failed() {
				t.Fatalf("with the seed %d: %+v", seed, e)
			}
			sameReached(t, m, s.Store().Table())
		}
	}
	if died[api.EvCommit] == 0 || died[api.EvSweep] == 0 || died[api.EvCheckpoint] == 0 {
		t.Error("too few died", died)
	}
}

// record is a script and the replies of a server.
func record(t *testing.T, r *rand.Rand) ([]api.Event, []api.Reply) {
	t.Helper()
	s := served(t, 300)
	list := script(r, 200)
	var replies []api.Reply
	for _, e := range list {
		replies = append(replies, s.Do(e))
	}
	return list, replies
}

// P23.2, P23.3: one reply that is another one than the server's is found out: at once, or by the commit of what was asked.
func TestWrongRepliesAreFound(t *testing.T) {
	found := 0
	for seed := range int64(100) {
		r := rand.New(rand.NewSource(seed))
		list, replies := record(t, r)
		if n, ok := serial.Check(list, replies); n != len(list) || !ok {
			t.Fatalf("Check = %d, %v, with the seed %d", n, ok, seed)
		}
		for range 20 {
			at := r.Intn(len(list))
			bad := slices.Clone(replies)
			switch r.Intn(3) {
			case 0:
				bad[at].N++
			case 1:
				bad[at].Text += "x"
			case 2:
				bad[at].Err = api.ErrName
			}
			want := place(list, replies, bad, at)
			n, ok := serial.Check(list, bad)
			if want >= 0 && (n != want || ok) {
				t.Fatalf("with the seed %d and %+v in the place of %+v at %d: Check = %d, %v; want %d", seed, bad[at], replies[at], at, n, ok, want)
			}
			if want >= 0 {
				found++
			}
		}
	}
	if found < 300 {
		t.Error("only", found)
	}
}

// place is where a reply that was changed must be found out; -1, if that hangs on more than on the script's kinds and the replies.
func place(list []api.Event, replies, bad []api.Reply, at int) int {
	e, was, is := list[at], replies[at], bad[at]
	switch e.Kind {
	case api.EvCommit, api.EvSweep:
		if was.Err == api.OK && is.Err == api.OK && is.N != was.N {
			return at
		}
	case api.EvAsk, api.EvRun:
		if was.Err == api.ErrNone && is.Err != api.ErrNone {
			return at
		}
		if was.Err != api.ErrNone && was.Err != api.ErrState {
			return judged(list, replies, e.Who, at)
		}
	}
	return -1
}

// judged is the place of the commit by which something that was asked is found out, if it comes to that.
func judged(list []api.Event, replies []api.Reply, who, at int) int {
	for i := at + 1; i < len(list); i++ {
		if list[i].Who != who || replies[i].Err != api.OK {
			continue
		}
		switch list[i].Kind {
		case api.EvCommit:
			return i
		case api.EvAbort, api.EvLogout:
			return -1
		}
	}
	return -1
}

// P23.4: what was not committed leaves nothing: given up, ended, refused.
func TestNotCommittedLeavesNothing(t *testing.T) {
	m := fresh(t)
	before := look(m)
	const did = "Root at: #x put: #(1 2 3). Object subclass: #P slots: ''. Array compile: 'second ^self at: 2'. nil"
	for n := range int64(4) {
		can(t, m, login(n))
		can(t, m, does(int(n), did, "nil")...)
	}
	can(t, m, by(0, api.EvAbort, api.Reply{}), by(1, api.EvLogout, api.Reply{}), by(2, api.EvCommit, api.Reply{Err: api.ErrClash, N: 15}), by(3, api.EvCommit, failed(api.ErrFull)))
	can(t, m, by(0, api.EvLogout, api.Reply{}), by(2, api.EvLogout, api.Reply{}), by(3, api.EvLogout, api.Reply{}))
	if !look(m).same(before) {
		t.Error("something is left")
	}
	can(t, m, by(0, api.EvSweep, api.Reply{}), login(0))
	can(t, m, does(0, "Root", "1:Dictionary()")...)
	can(t, m, asking(0, "#(1 2) second", api.Reply{}), running(0, 9, api.Reply{Err: api.ErrArg, Text: "does not understand second", N: 1}), commit(0, 1))
	sameReached(t, m, served(t, 100).Store().Table())
}

// P23.4: a server on which only what is committed is done has all that one has on which much more was done.
func TestOnlyWhatIsCommitted(t *testing.T) {
	for seed := range int64(20) {
		r := rand.New(rand.NewSource(seed))
		s, m := served(t, 500), fresh(t)
		s.Do(api.Event{Kind: api.EvLogin})
		can(t, m, login(0))
		for range 40 {
			e := []api.Event{{Kind: api.EvAsk, Text: someSource(r)}, {Kind: api.EvRun, N: 300}, {Kind: api.EvCommit}}
			if r.Intn(2) == 0 {
				e[2].Kind = api.EvAbort
			}
			keep := e[2].Kind == api.EvCommit
			for _, e := range e {
				other := api.Reply{Text: "wrong", N: 9}
				if keep {
					other = s.Do(e)
				}
				can(t, m, told{e, other})
			}
			if s.Do(api.Event{Kind: api.EvAbort}); keep {
				can(t, m, by(0, api.EvAbort, api.Reply{}))
			}
		}
		sameReached(t, m, s.Store().Table())
	}
}

// P7: whatever the steps and the replies, a model tells something, and goes on alone.
func TestAnything(t *testing.T) {
	numbers := []int{0, 1, 2, 3, -1, 4, 7, 2000, math.MaxInt, math.MinInt, 1 << 32}
	for seed := range int64(300) {
		r := rand.New(rand.NewSource(seed))
		m, steps := fresh(t), 0
		for range 60 {
			e := someEvent(r)
			if r.Intn(5) == 0 {
				e = api.Event{Kind: numbers[r.Intn(len(numbers))], Who: numbers[r.Intn(len(numbers))], Text: "\xff\x00", Keep: []bool{true}}
			}
			x := api.Reply{Err: api.Errno(r.Intn(34) - 1), Text: someSource(r), At: numbers[r.Intn(len(numbers))], N: int64(numbers[r.Intn(len(numbers))])}
			if r.Intn(2) == 0 {
				x = api.Reply{N: int64(r.Intn(4))}
			}
			if m.Step(e, x) {
				steps++
			}
			m.Copy().Step(e, x)
			if m.Last() != m.Table().Last() || len(m.Open()) > api.MaxSessions {
				t.Fatal("with the seed", seed)
			}
		}
	}
}
