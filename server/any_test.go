package server_test

import (
	"math"
	"math/rand"
	"strings"
	"testing"

	"lapidary/api"
)

// The examples of the whole, 1 to 6 and 8 to 10.
func TestExamplesOfTheWhole(t *testing.T) {
	s := fresh(t, 900)
	logsIn(t, s, 0)
	logsIn(t, s, 1)
	goes(t, s, asking(0, "3 + 4"))
	replies(t, s, running(0, 9), api.Reply{Text: "7", N: 1})
	does(t, s, 0, "Object subclass: #P slots: 'x'. P compile: 'x: n x := n'. P compile: 'x ^x'")
	commits(t, s, 0, 2)
	goes(t, s, by(1, api.EvAbort))
	says(t, s, 1, "(P new) x: 5; x", "5")
	says(t, s, 0, "25 factorial asString", "'15511210043330985984000000'")
	says(t, s, 0, "((1 im: 2) * (3 im: 4)) re", "-5")
	says(t, s, 0, "[1 / 0] onError: [:e | e]", "'by nought'")
	fails(t, s, 0, "nil foo", "does not understand foo")
	says(t, s, 0, "Root at: #x put: 1", "1")
	says(t, s, 1, "Root at: #y put: 2", "2")
	commits(t, s, 0, 3)
	replies(t, s, by(1, api.EvCommit), api.Reply{Err: api.ErrClash, N: 15})
	does(t, s, 0, "Root at: #c put: (RcCounter new increment: 1)")
	commits(t, s, 0, 4)
	for who := range 2 {
		goes(t, s, by(who, api.EvAbort))
		says(t, s, who, "(Root at: #c) increment: 3. nil", "nil")
	}
	commits(t, s, 0, 5)
	commits(t, s, 1, 6)
	says(t, s, 1, "(Root at: #c) value", "7")
	replies(t, s, step(api.EvSweep), api.Reply{Err: api.ErrOpen})
	goes(t, s, asking(0, "[true] whileTrue: [1]"))
	goes(t, s, running(0, 100))
	goes(t, s, by(0, api.EvAbort))
	replies(t, s, asking(0, "a ]"), api.Reply{Err: api.ErrSyntax, At: 2})
	does(t, s, 0, "Root removeKey: #c")
	commits(t, s, 0, 7)
	goes(t, s, by(0, api.EvLogout))
	goes(t, s, by(1, api.EvLogout))
	replies(t, s, step(api.EvSweep), api.Reply{N: 2})
}

// P5: what is told by errors, and that it goes on behind them.
func TestToldByErrors(t *testing.T) {
	s := fresh(t, 600)
	logsIn(t, s, 0)
	fails(t, s, 0, "Object subclass: #P slots: ''. P compile: 'f ^self f'. P new f", "too deep")
	for range 3 {
		s.Do(step(api.EvLogin))
	}
	replies(t, s, step(api.EvLogin), api.Reply{Err: api.ErrFull})
	replies(t, s, asking(0, strings.Repeat(" ", api.MaxText+1)), api.Reply{Err: api.ErrSize})
	replies(t, s, asking(0, strings.Repeat("(", 41)+"3"+strings.Repeat(")", 41)), api.Reply{Err: api.ErrSize, At: 40})
	replies(t, s, asking(0, "\xff"), api.Reply{Err: api.ErrSyntax})
	says(t, s, 0, "3 + 4", "7")
	commits(t, s, 0, 2)
}

// anyEvent is a step of any kind at all.
func anyEvent(r *rand.Rand) api.Event {
	numbers := []int{0, 1, 2, 3, -1, 4, 7, 20000, math.MaxInt, math.MinInt, 1 << 32}
	e := api.Event{Kind: r.Intn(14) - 1, Who: r.Intn(4), N: numbers[r.Intn(len(numbers))]}
	if r.Intn(4) == 0 {
		e.Kind, e.Who = numbers[r.Intn(len(numbers))], numbers[r.Intn(len(numbers))]
	}
	if r.Intn(2) == 0 {
		e.Text = someSource(r)
	} else {
		b := make([]byte, r.Intn(30))
		r.Read(b)
		e.Text = string(b)
	}
	for range r.Intn(5) {
		e.Keep = append(e.Keep, r.Intn(2) == 0)
	}
	return e
}

// P22.2, P7: each step is answered, whatever it is, by an error that its kind may have; what the reply does not name is 0.
func TestAnySteps(t *testing.T) {
	for seed := range int64(60) {
		r := rand.New(rand.NewSource(seed))
		s := fresh(t, 38+r.Intn(300))
		for i := range 300 {
			e := anyEvent(r)
			wasDown, sessions, last := s.Down(), len(s.Open()), int64(0)
			if !wasDown {
				last = s.Store().Last()
			}
			x := s.Do(e)
			if s.Steps() != int64(i)+1 || s.Down() != (s.Store() == nil) || s.Down() && len(s.Open()) > 0 {
				t.Fatal("steps", s.Steps(), "down", s.Down(), "open", s.Open())
			}
			known := e.Kind >= api.EvLogin && e.Kind <= api.EvSweep
			switch {
			case !known && x != (api.Reply{Err: api.ErrArg}),
				known && wasDown && e.Kind != api.EvCrash && x != (api.Reply{Err: api.ErrDead}),
				x.Err == api.ErrDead && !s.Down(),
				x.Err != api.OK && x.Err != api.ErrArg && x.Text != "",
				x.At != 0 && e.Kind != api.EvAsk,
				x.Text != "" && e.Kind != api.EvRun,
				x.Err != api.OK && x.N != 0 && e.Kind != api.EvRun && x.Err != api.ErrClash,
				known && !wasDown && e.Kind == api.EvSweep && sessions > 0 && x != (api.Reply{Err: api.ErrOpen}),
				!wasDown && e.Kind == api.EvCommit && x.Err != api.OK && x.Err != api.ErrDead && s.Store().Last() != last:
				t.Fatalf("with the seed %d: %+v = %+v", seed, e, x)
			}
		}
	}
}
