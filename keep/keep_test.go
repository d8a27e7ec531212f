package keep_test

import (
	"math"
	"slices"
	"testing"

	"lapidary/api"
	"lapidary/keep"
	"lapidary/kernel"
	"lapidary/table"
	"lapidary/value"
)

// empty and one are what the root is told as.
const (
	empty = "1:Dictionary()"
	one   = "1:Dictionary(#x 1)"
)

// others are errors that are neither OK nor ErrDead.
func others() []api.Errno {
	return []api.Errno{api.ErrArg, api.ErrNil, api.ErrFull, api.ErrState, api.ErrForm, api.ErrNone, api.ErrOpen, -1, 99}
}

// P24.1: a new ledger is up, behind the first commit.
func TestNew(t *testing.T) {
	l := fresh(t)
	is(t, l, 1, false)
	first, err := kernel.Build()
	now := table.New()
	now.Apply(first)
	if err != api.OK || !sameRecord(l.Table().All(), now.All()) || l.Steps() != 0 {
		t.Error("it has not the first commit alone")
	}
	isUp(t, l, empty)
	l.Table().Apply(value.Record{Commit: 9})
	is(t, l, 2, false)
	is(t, fresh(t), 1, false)
}

// P24.1: of nil; and of a ledger that New did not make.
func TestNil(t *testing.T) {
	var none *keep.Ledger
	if none.Table() != nil || none.Last() != 0 || none.Doubt() || none.Steps() != 0 || none.Close() {
		t.Error("nil has something")
	}
	for kind := range 12 {
		for _, r := range []api.Reply{{}, dead(), failed(api.ErrArg)} {
			if none.Step(api.Event{Kind: kind}, r) {
				t.Error("a step of nil can be")
			}
			l := &keep.Ledger{}
			l.Step(api.Event{Kind: kind}, r)
			l.Step(api.Event{Kind: api.EvCrash}, api.Reply{})
			if l.Last() != 0 || l.Table() != nil || l.Doubt() {
				t.Error("what New did not make has objects")
			}
		}
	}
}

// The example.
func TestExample(t *testing.T) {
	list := append(put(), plain(api.EvCommit, dead()))
	can(t, behind(t, list...), crash(1))
	can(t, behind(t, list...), crash(2))
	cannot(t, list, crash(3))
}

// P24.1: a kind that there is not, up and down.
func TestNoKind(t *testing.T) {
	for _, list := range [][]told{nil, put(), {plain(api.EvCrash, dead())}} {
		l := behind(t, list...)
		for _, kind := range []int{0, -1, api.EvSweep + 1, 99, math.MaxInt, math.MinInt, 1<<32 + 7} {
			can(t, l, plain(kind, failed(api.ErrArg)), by(5, kind, api.Reply{Err: api.ErrArg, N: 3, Text: "x"}))
			for _, r := range []api.Reply{{}, number(1), dead(), failed(api.ErrNone), failed(99)} {
				cannot(t, list, plain(kind, r))
			}
		}
		is(t, l, 1, false)
	}
}

// P24.1: a crash while it is up.
func TestCrashWhileUp(t *testing.T) {
	l := behind(t, put()...)
	can(t, l, login(3), crash(1))
	isUp(t, l, empty)
	can(t, l, crash(2), crash(2), told{api.Event{Kind: api.EvCrash, N: 9, Keep: []bool{true}}, api.Reply{N: 2, Text: "x", At: 4}})
	for _, list := range [][]told{nil, put(), lost()} {
		last := behind(t, list...).Last()
		for _, n := range []int64{0, last - 1, last + 1, -last, math.MaxInt64, math.MinInt64, 1<<32 + last} {
			cannot(t, list, crash(n))
		}
		for _, err := range others() {
			cannot(t, list, plain(api.EvCrash, failed(err)))
			cannot(t, list, plain(api.EvCrash, api.Reply{Err: err, N: last}))
		}
		l := behind(t, append(list, plain(api.EvCrash, dead()), plain(api.EvLogin, dead()))...)
		is(t, l, last, false)
		can(t, l, plain(api.EvCrash, api.Reply{Err: api.ErrDead, N: 9}), crash(last))
		isUp(t, l, []string{"", empty, "", one}[last])
	}
}

// P24.1: whatever is asked while it is down is not done.
func TestWhileDown(t *testing.T) {
	for _, list := range [][]told{
		append(put(), plain(api.EvCommit, dead())), append(put(), plain(api.EvCheckpoint, dead())),
		append(lost(), plain(api.EvSweep, dead())), append(put(), plain(api.EvCrash, dead())),
	} {
		l := behind(t, list...)
		last, doubt := l.Last(), l.Doubt()
		for _, kind := range []int{api.EvLogin, api.EvAsk, api.EvRun, api.EvCommit, api.EvAbort, api.EvLogout, api.EvFail, api.EvCheckpoint, api.EvSweep} {
			for _, who := range []int{0, 1, -1, math.MaxInt, math.MinInt} {
				can(t, l, by(who, kind, dead()), by(who, kind, api.Reply{Err: api.ErrDead, N: 3, Text: "x"}))
			}
			is(t, l, last, doubt)
			for _, r := range []api.Reply{{}, number(1), number(last), number(last + 1), failed(api.ErrNone), failed(api.ErrState), failed(api.ErrArg)} {
				cannot(t, list, plain(kind, r))
			}
		}
		can(t, l, crash(last))
		isUp(t, l, []string{"", empty, "", one}[last])
	}
}

// P24.1: ErrDead, while it is up, of steps that write nothing.
func TestDeadOfWhatWritesNothing(t *testing.T) {
	for _, kind := range []int{api.EvLogin, api.EvAsk, api.EvRun, api.EvAbort, api.EvLogout, api.EvFail} {
		for _, who := range []int{0, 1, -1, 4} {
			cannot(t, put(), by(who, kind, dead()))
			cannot(t, nil, by(who, kind, api.Reply{Err: api.ErrDead, N: 1}))
		}
	}
}

// P24.1: ErrDead, while it is up, of steps that write: it is down, and a commit may be in doubt.
func TestDead(t *testing.T) {
	busy := append(put(), told{api.Event{Kind: api.EvAsk, Text: "3"}, api.Reply{}})
	wrong := append(put(), does(0, "3 + 4", "8")...)
	stale := slices.Concat(put(), []told{login(1)}, does(1, "Root size", "0"), does(1, "Root at: #y put: 1", "1"), []told{commit(0, 2)})
	counter := slices.Concat([]told{login(0)}, does(0, "Root at: #c put: RcCounter new. nil", "nil"), []told{commit(0, 2)}, does(0, "(Root at: #c) increment: 3. nil", "nil"))
	open := append(lost(), login(2))
	for _, x := range []struct {
		name  string
		list  []told
		step  told
		last  int64
		doubt bool
	}{
		{"a commit", put(), plain(api.EvCommit, dead()), 1, true},
		{"a commit with a number and a text", put(), plain(api.EvCommit, api.Reply{Err: api.ErrDead, N: 7, Text: "x"}), 1, true},
		{"a commit of a Counter", counter, plain(api.EvCommit, dead()), 2, true},
		{"a commit of nobody", put(), by(1, api.EvCommit, dead()), 1, false},
		{"a commit of a session that can not be", put(), by(-1, api.EvCommit, dead()), 1, false},
		{"a commit of one that is too many", put(), by(4, api.EvCommit, dead()), 1, false},
		{"a commit that changes nothing", []told{login(0)}, plain(api.EvCommit, dead()), 1, false},
		{"a commit of one that only reads", append([]told{login(0)}, does(0, "Root size", "0")...), plain(api.EvCommit, dead()), 1, false},
		{"a commit of one that gave it up", append(put(), plain(api.EvAbort, api.Reply{})), plain(api.EvCommit, dead()), 1, false},
		{"a commit of one that has ended", append(put(), plain(api.EvLogout, api.Reply{})), plain(api.EvCommit, dead()), 1, false},
		{"a commit of one that is busy", busy, plain(api.EvCommit, dead()), 1, false},
		{"a commit of what could not be alone", wrong, plain(api.EvCommit, dead()), 1, false},
		{"a commit of one who was second", stale, by(1, api.EvCommit, dead()), 2, false},
		{"a checkpoint", put(), plain(api.EvCheckpoint, dead()), 1, false},
		{"a sweep", lost(), plain(api.EvSweep, dead()), 3, true},
		{"a sweep of any number", lost(), plain(api.EvSweep, api.Reply{Err: api.ErrDead, N: 99}), 3, true},
		{"a sweep where nothing is lost", nil, plain(api.EvSweep, dead()), 1, false},
		{"a sweep with a session", open, plain(api.EvSweep, dead()), 3, false},
	} {
		list := append(x.list[:len(x.list):len(x.list)], x.step)
		is(t, behind(t, list...), x.last, x.doubt)
		can(t, behind(t, list...), crash(x.last))
		if x.doubt {
			can(t, behind(t, list...), crash(x.last+1))
		} else {
			cannot(t, list, crash(x.last+1))
		}
		for _, n := range []int64{0, x.last - 1, x.last + 2, -1, math.MaxInt64} {
			cannot(t, list, crash(n))
		}
		for _, err := range others() {
			cannot(t, list, plain(api.EvCrash, api.Reply{Err: err, N: x.last}))
		}
		if t.Failed() {
			t.Fatal(x.name)
		}
	}
}

// P24.1: a commit in doubt that is there, and one that is not; a doubt stays as long as it is down, and no longer.
func TestCommitInDoubt(t *testing.T) {
	list := slices.Concat(put(), []told{login(2)}, does(2, "Root at: #y put: 2", "2"), []told{plain(api.EvCommit, dead())})
	for times := range 3 {
		for n := int64(1); n <= 2; n++ {
			l := behind(t, list...)
			sameReached(t, l, fresh(t).Table())
			for range times {
				can(t, l, plain(api.EvCrash, dead()), plain(api.EvLogin, dead()), by(2, api.EvCommit, dead()), plain(api.EvSweep, dead()), plain(99, failed(api.ErrArg)))
				is(t, l, 1, true)
			}
			can(t, l, crash(n))
			is(t, l, n, false)
			if n == 2 {
				sameReached(t, l, behind(t, append(put(), commit(0, 2))...).Table())
			}
			isUp(t, l, []string{"", empty, one}[n])
			can(t, l, crash(n+1)) // behind which nobody is there
			can(t, l, login(0))
		}
	}
	for _, n := range []int64{1, 2} {
		cannot(t, append(list, crash(n)), crash(3-n))
	}
}

// P24.1: a sweep in doubt that is there, and one that is not.
func TestSweepInDoubt(t *testing.T) {
	list := append(lost(), plain(api.EvSweep, dead()))
	l := behind(t, append(list, crash(3))...)
	is(t, l, 3, false)
	can(t, l, plain(api.EvSweep, number(4)))
	is(t, l, 4, false)
	isUp(t, l, one)
	l = behind(t, append(list, crash(4))...)
	is(t, l, 4, false)
	can(t, l, plain(api.EvSweep, number(0)))
	is(t, l, 4, false)
	isUp(t, l, one)
	for _, n := range []int64{3, 4} {
		cannot(t, append(list, crash(n)), plain(api.EvSweep, number(4*(n-3))))
	}
}

// P24.1: doubts one behind the other.
func TestManyDoubts(t *testing.T) {
	l := fresh(t)
	last := int64(1)
	for i := range 40 {
		can(t, l, put()...)
		can(t, l, plain(api.EvCommit, dead()))
		is(t, l, last, true)
		if i%3 > 0 {
			last++
		}
		can(t, l, crash(last))
		is(t, l, last, false)
	}
	isUp(t, l, one)
}

// P24.1: commits and sweeps that were in doubt, and were there, have the table that they have if they were told: by each object's last commit too, however often the model wrote all anew.
func TestDoubtsAsIfTold(t *testing.T) {
	a, b := fresh(t), fresh(t)
	both := func(x told) {
		can(t, b, x)
		if x.e.Kind != api.EvCommit && x.e.Kind != api.EvSweep {
			can(t, a, x)
			return
		}
		can(t, a, told{x.e, dead()})
		is(t, a, b.Last()-1, true)
		can(t, a, crash(b.Last()))
	}
	for round := range int64(90) {
		both(login(0))
		for _, x := range does(0, "Root at: #x put: (String new: 900). nil", "nil") {
			both(x)
		}
		both(commit(0, b.Last()+1))
		can(t, b, plain(api.EvLogout, api.Reply{}))
		if round%20 == 19 {
			both(plain(api.EvSweep, number(19+min(1, round/20))))
		}
		x, y := a.Table(), b.Table()
		for oop := int64(0); oop <= api.MaxOops; oop++ {
			if x.Changed(oop) != y.Changed(oop) {
				t.Fatalf("behind %d the object %d was changed by %d, and if it was told by %d", a.Last(), oop, x.Changed(oop), y.Changed(oop))
			}
		}
		if x.First() != y.First() || !sameRecord(x.All(), y.All()) || t.Failed() {
			t.Fatal("behind", a.Last(), "all is not as if it was told")
		}
	}
}

// P24.1: whatever else is asked while it is up is as of a model.
func TestAsTheModelSays(t *testing.T) {
	can(t, behind(t, put()...), commit(0, 2), plain(api.EvLogin, failed(api.ErrFull)), plain(api.EvFail, api.Reply{}), plain(api.EvCheckpoint, failed(api.ErrFull)))
	can(t, behind(t, lost()...), plain(api.EvSweep, number(4)))
	for _, x := range []told{commit(0, 3), commit(0, 1), commit(1, 2), login(0), login(-1), login(4), by(1, api.EvAsk, api.Reply{}), by(1, api.EvRun, failed(api.ErrState)), by(3, api.EvAbort, api.Reply{}), by(-1, api.EvLogout, api.Reply{}), plain(api.EvSweep, api.Reply{})} {
		cannot(t, put(), x)
	}
	cannot(t, lost(), plain(api.EvSweep, number(3)))
	for _, err := range others() {
		can(t, behind(t, put()...), plain(api.EvCommit, failed(err)), plain(api.EvSweep, failed(err)), plain(api.EvCheckpoint, failed(err)), commit(0, 2))
	}
}

// P24.1: Close, and what is told behind it.
func TestClose(t *testing.T) {
	for _, list := range [][]told{nil, put(), append(put(), plain(api.EvCommit, dead()))} {
		l := behind(t, list...)
		last, doubt, steps := l.Last(), l.Doubt(), l.Steps()
		if steps != int64(len(list)) || !l.Close() {
			t.Errorf("behind %d steps it can not be closed", steps)
		}
		isClosed(t, l)
		is(t, l, last, doubt)
		if l.Steps() != steps || l.Close() {
			t.Errorf("%d steps, then %d", steps, l.Steps())
		}
	}
	l := behind(t, put()...)
	if l.Step(api.Event{Kind: api.EvCommit}, number(3)) || l.Close() || l.Close() || l.Steps() != 3 {
		t.Error("what is closed by what can not be is closed again")
	}
}

// P24.2: Check.
func TestCheck(t *testing.T) {
	list := slices.Concat(put(), []told{plain(api.EvCommit, dead()), plain(api.EvLogin, dead()), crash(2)}, put(), []told{plain(api.EvCommit, dead()), crash(2), login(0)})
	var script []api.Event
	var replies []api.Reply
	for _, x := range list {
		script, replies = append(script, x.e), append(replies, x.r)
	}
	check := func(script []api.Event, replies []api.Reply, want int, right bool) {
		t.Helper()
		if n, ok := keep.Check(script, replies); n != want || ok != right {
			t.Errorf("Check = %d, %v; want %d, %v", n, ok, want, right)
		}
	}
	check(nil, nil, 0, true)
	check(script, nil, 0, true)
	check(nil, replies, 0, true)
	check(script, replies, len(list), true)
	for n := range len(list) {
		check(script[:n], replies, n, true)
		check(script, replies[:n], n, true)
		wrong := append(slices.Clone(script[:n]), api.Event{Kind: 99})
		check(append(wrong, script[n:]...), append(slices.Clone(replies), api.Reply{}), n, false)
		check(wrong, append(slices.Clone(replies[:n]), api.Reply{}), n, false)
		check(wrong, replies[:n], n, true)
	}
	replies[5].N = 3
	check(script, replies, 5, false)
	check(script, replies[:5], 5, true)
	replies[5].N = 1
	check(script, replies, len(list), true) // then the commit 2 is there by the second one that is in doubt
	replies[10].N = 3
	check(script, replies, 10, false)
}
