package session_test

import (
	"fmt"
	"math/rand"
	"testing"

	"lapidary/api"
	"lapidary/session"
)

// someSource is a source that reads or writes, or does something to a Counter or a Bag.
func someSource(r *rand.Rand) string {
	key, n := r.Intn(4), r.Intn(5)
	list := []string{
		fmt.Sprintf("Root at: %d put: %d", key, n),
		fmt.Sprintf("Root at: %d ifAbsent: [%d]", key, n),
		fmt.Sprintf("Root removeKey: %d", key),
		fmt.Sprintf("(Root at: #a) at: 1 put: %d", n),
		"(Root at: #a) at: 1",
		fmt.Sprintf("Root at: %d put: (Root at: #a)", key),
		fmt.Sprintf("(Root at: #c) increment: %d. nil", n),
		fmt.Sprintf("(Root at: #c) decrement: %d. nil", n),
		fmt.Sprintf("(Root at: #c) increment: %d. nil", n),
		"(Root at: #c) value",
		fmt.Sprintf("(Root at: #b) add: %d. nil", n),
		fmt.Sprintf("(Root at: #b) remove: %d. nil", n),
		fmt.Sprintf("(Root at: #b) count: %d", n),
		"Root",
		"1 / 0",
		"a ]",
	}
	return list[r.Intn(len(list))]
}

// tally is what the tests know of a session.
type tally struct {
	*session.Session
	since bool  // has somebody else committed since its view was made?
	added int64 // what it added to the Counter
}

// P21.5, P21.6: sessions that do what they like at random: who began behind the last commit does not clash; the Counter has all that was committed, and no more.
func TestSessionsAtRandom(t *testing.T) {
	clashed, committed := 0, 0
	for seed := range int64(60) {
		r := rand.New(rand.NewSource(seed))
		w := withCounters(t)
		var all []*tally
		for range 1 + r.Intn(4) {
			all = append(all, &tally{Session: joins(t, w)})
		}
		var sum int64
		for range 60 {
			x := all[r.Intn(len(all))]
			switch k := r.Intn(8); {
			case k < 5:
				x.does(t, r)
			case k == 5:
				x.Abort()
				x.since, x.added = false, 0
			default:
				last := w.Store().Last()
				reply := x.Commit()
				if reply.Err == api.ErrClash && x.since {
					clashed++
					continue
				}
				if reply.Err != api.OK || reply.N != w.Store().Last() || reply.N > last+1 {
					t.Fatalf("with the seed %d: Commit %+v behind %d", seed, reply, last)
				}
				for _, y := range all {
					y.since = y.since || reply.N > last
				}
				sum += x.added
				x.since, x.added = false, 0
				committed++
			}
		}
		x := w.Store().Table()
		if o, _ := x.At(x.Last(), theCounter); o.Slots[0] != integer(sum) {
			t.Fatalf("with the seed %d: the Counter is %v, want %d", seed, o.Slots, sum)
		}
	}
	if clashed < 50 || committed < 400 {
		t.Errorf("only %d clashed, %d were committed", clashed, committed)
	}
}

// does lets a session run something to its end, and keeps account of its Counter.
func (x *tally) does(t *testing.T, r *rand.Rand) {
	t.Helper()
	source := someSource(r)
	if reply := x.Ask(source); reply.Err != api.OK {
		return
	}
	if reply := x.Run(enough); reply.N != 1 {
		t.Fatalf("%q: %+v", source, reply)
	}
	var n int64
	if _, err := fmt.Sscanf(source, "(Root at: #c) increment: %d", &n); err == nil {
		x.added += n
	}
	if _, err := fmt.Sscanf(source, "(Root at: #c) decrement: %d", &n); err == nil {
		x.added -= n
	}
}

// P7: sources and numbers of any kind, one call behind the other: each is answered, and what there is not is 0.
func TestAnyCalls(t *testing.T) {
	r := rand.New(rand.NewSource(1))
	w := withCounters(t)
	s := joins(t, w)
	for range 4000 {
		busy := s.Busy()
		switch r.Intn(8) {
		case 0, 1:
			source := make([]byte, r.Intn(12))
			for i := range source {
				source[i] = "ab1 [](){}#':=.;^|+-<$\x00\xff\n"[r.Intn(25)]
			}
			x := s.Ask(string(source))
			if busy && x != (api.Reply{Err: api.ErrState}) || x.Text != "" || x.N != 0 {
				t.Errorf("Ask(%q) = %+v", source, x)
			}
		case 2:
			s.Ask(someSource(r))
		case 3, 4:
			x := s.Run([]int{0, 1, 3, 100, -1, 1 << 62, -1 << 63}[r.Intn(7)])
			if !busy && x != (api.Reply{Err: api.ErrState}) || x.At != 0 || busy && (x.N == 1) == s.Busy() {
				t.Errorf("Run = %+v", x)
			}
		case 5:
			if x := s.Commit(); busy && x != (api.Reply{Err: api.ErrState}) || x.Text != "" || x.At != 0 {
				t.Errorf("Commit = %+v", x)
			}
		case 6:
			if r.Intn(4) == 0 {
				replies(t, "Abort", s.Abort(), api.Reply{})
			}
		case 7:
			if r.Intn(8) == 0 {
				replies(t, "Close", s.Close(), api.Reply{})
				s = joins(t, w)
			}
		}
		s.Did()
	}
}
