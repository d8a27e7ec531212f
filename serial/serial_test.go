package serial_test

import (
	"math"
	"testing"

	"lapidary/api"
	"lapidary/kernel"
	"lapidary/serial"
	"lapidary/table"
	"lapidary/value"
)

// P23.1: a new model has the first commit, and no sessions.
func TestNew(t *testing.T) {
	m := fresh(t)
	is(t, m, 1)
	first, err := kernel.Build()
	now := table.New()
	now.Apply(first)
	if err != api.OK || !sameRecord(m.Table().All(), now.All()) {
		t.Error("it has not the first commit")
	}
	can(t, m, login(0))
	is(t, fresh(t), 1)
}

// P23.1: Table is a copy: what is done to it is not seen.
func TestTableIsACopy(t *testing.T) {
	m := behind(t, steps(put(), commit(0, 2)))
	x := m.Table()
	x.Apply(value.Record{Commit: 9})
	x.All().Changes[0].Obj.Slots[0] = api.Val{}
	is(t, m, 2, 0)
	o, _ := m.Table().At(2, 1)
	same, _ := m.Table().At(2, 1)
	o.Slots[0] = api.Val{K: api.Int, N: 99}
	if again, _ := m.Table().At(2, 1); !value.Same(again, same) {
		t.Error("an object shares memory with an answer")
	}
	m.Open()[0] = 7
	is(t, m, 2, 0)
	cannot(t, m, by(0, api.EvCrash, api.Reply{}))
	m.Table().Apply(value.Record{Commit: 9})
	is(t, m, 2, 0)
}

// P23.1: of nil; and of a model that New did not make.
func TestNil(t *testing.T) {
	var none *serial.Model
	for _, kind := range kinds() {
		if none.Step(api.Event{Kind: kind}, failed(api.ErrArg)) || none.Step(api.Event{Kind: kind}, api.Reply{}) {
			t.Error("a step of nil can be")
		}
	}
	if none.Table() != nil || none.Last() != 0 || len(none.Open()) != 0 || none.Copy() != nil {
		t.Error("nil has something")
	}
	for _, kind := range kinds() {
		m := &serial.Model{}
		can(t, m, login(2))
		m.Step(api.Event{Kind: kind, Who: 2}, api.Reply{})
		m.Step(api.Event{Kind: api.EvSweep}, api.Reply{})
		m.Step(api.Event{Kind: api.EvCommit, Who: 2}, api.Reply{})
		if c := m.Copy(); m.Last() != 0 || c.Last() != 0 || c.Table() != nil || m.Table() != nil {
			t.Error("what New did not make has objects")
		}
	}
}

// The example.
func TestExample(t *testing.T) {
	can(t, behind(t, put()), commit(0, 2))
	cannot(t, behind(t, put()), commit(0, 3))
}

// P23.1: EvLogin.
func TestLogin(t *testing.T) {
	m := fresh(t)
	can(t, m, login(3), login(0), login(2))
	is(t, m, 1, 0, 2, 3)
	for _, n := range []int64{0, 2, 3, -1, api.MaxSessions, api.MaxSessions + 1, math.MaxInt64, math.MinInt64, 1 << 32} {
		cannot(t, m.Copy(), login(n))
	}
	for _, err := range []api.Errno{api.ErrFull, api.ErrNil, api.ErrArg, api.ErrDead, -1, 99} {
		for _, n := range []int64{0, 1, -1, 4} {
			can(t, m, told{api.Event{Kind: api.EvLogin}, api.Reply{Err: err, N: n}})
		}
	}
	is(t, m, 1, 0, 2, 3)
	can(t, m, login(1), by(0, api.EvLogin, failed(api.ErrFull)))
	is(t, m, 1, 0, 1, 2, 3)
	can(t, m, by(2, api.EvLogout, api.Reply{}), login(2))
	can(t, behind(t, nil), told{api.Event{Kind: api.EvLogin, Who: 9, N: -4, Text: "x", Keep: []bool{true}}, api.Reply{Text: "y", At: 3}})
}

// P23.1: a session of which nothing was asked, though much was asked of one with its number.
func TestLoginAnew(t *testing.T) {
	m := behind(t, steps(put(), by(0, api.EvLogout, api.Reply{}), login(0), commit(0, 1)))
	is(t, m, 1, 0)
}

// P23.1: steps of a session that is not there.
func TestNoSession(t *testing.T) {
	for _, kind := range []int{api.EvAsk, api.EvRun, api.EvCommit, api.EvAbort, api.EvLogout} {
		m := behind(t, put())
		for _, who := range []int{-1, 1, 3, 4, math.MaxInt, math.MinInt, 1 << 32} {
			can(t, m, by(who, kind, failed(api.ErrNone)), by(who, kind, api.Reply{Err: api.ErrNone, N: 7, Text: "x", At: 1}))
			for _, r := range []api.Reply{{}, number(1), number(2), failed(api.ErrState), failed(api.ErrArg), failed(api.ErrDead), failed(api.ErrNil)} {
				cannot(t, m.Copy(), by(who, kind, r))
			}
		}
		is(t, m, 1, 0)
		can(t, m, commit(0, 2))
	}
}

// P23.1: of a session that is there whatever is asked can be; by its commit what was asked is found out.
func TestAsked(t *testing.T) {
	for _, x := range []struct {
		name  string
		did   []told
		right bool
	}{
		{"nothing", nil, true},
		{"one more", does(0, "Root at: #x", "1"), true},
		{"another text", does(0, "Root at: #x", "2"), false},
		{"one that failed", steps(asking(0, "1 / 0", api.Reply{}), running(0, 9, api.Reply{Err: api.ErrArg, Text: "by nought", N: 1})), true},
		{"one that failed otherwise", steps(asking(0, "1 / 0", api.Reply{}), running(0, 9, api.Reply{Err: api.ErrArg, Text: "by one", N: 1})), false},
		{"one that failed, without its N", steps(asking(0, "1 / 0", api.Reply{}), running(0, 9, api.Reply{Err: api.ErrArg, Text: "by nought"})), false},
		{"in parts", steps(asking(0, "3 + 4", api.Reply{}), running(0, 0, api.Reply{}), running(0, 9, api.Reply{Text: "7", N: 1})), true},
		{"over too early", steps(asking(0, "3 + 4", api.Reply{}), running(0, 0, api.Reply{Text: "7", N: 1})), false},
		{"over too late", steps(asking(0, "3 + 4", api.Reply{}), running(0, 9, api.Reply{}), running(0, 9, api.Reply{Text: "7", N: 1})), false},
		{"not over", steps(asking(0, "3 + 4", api.Reply{})), false},
		{"no source", asking1("a ]", api.Reply{Err: api.ErrSyntax, At: 2}), true},
		{"no source, elsewhere", asking1("a ]", api.Reply{Err: api.ErrSyntax, At: 1}), false},
		{"no source, by another error", asking1("a ]", api.Reply{Err: api.ErrName, At: 2}), false},
		{"no source, that was taken", asking1("a ]", api.Reply{}), false},
		{"a source that was taken for none", asking1("3", api.Reply{Err: api.ErrSyntax}), false},
		{"a source with a text", steps(asking(0, "3", api.Reply{Text: "3"}), running(0, 9, api.Reply{Text: "3", N: 1})), false},
		{"a source with a number", steps(asking(0, "3", number(1)), running(0, 9, api.Reply{Text: "3", N: 1})), false},
		{"asked while it runs", steps(asking(0, "3", api.Reply{}), asking(0, "4", failed(api.ErrState)), running(0, 9, api.Reply{Text: "3", N: 1})), true},
		{"run while nothing runs", steps(running(0, 9, failed(api.ErrState)), running(0, 9, api.Reply{Err: api.ErrState, Text: "x", N: 1})), true},
		{"not now, though it was", steps(asking(0, "3", failed(api.ErrState)), running(0, 9, failed(api.ErrState))), true},
		{"none, though it is there", asking1("3", failed(api.ErrNone)), false},
		{"dead", asking1("3", failed(api.ErrDead)), false},
		{"run by an error that there is not", steps(running(0, 9, failed(77))), false},
		{"run, which was not taken", steps(running(0, 9, api.Reply{})), false},
	} {
		m := behind(t, steps(put(), x.did))
		is(t, m, 1, 0)
		if x.right {
			can(t, m, commit(0, 2))
			is(t, m, 2, 0)
		} else {
			cannot(t, m, commit(0, 2))
		}
		if t.Failed() {
			t.Fatal(x.name)
		}
	}
}

func asking1(source string, r api.Reply) []told { return []told{asking(0, source, r)} }

// P23.1: the number of steps and the source are those that were asked.
func TestAskedAsItWas(t *testing.T) {
	const source = "Root at: #x put: 0. 1 to: 50 do: [:i | Root at: #x put: i]. 8"
	s := served(t, 100)
	m := fresh(t)
	var list []told
	do := func(e api.Event) {
		r := s.Do(e)
		list = append(list, told{e, r})
		can(t, m, told{e, r})
	}
	do(api.Event{Kind: api.EvLogin})
	do(api.Event{Kind: api.EvAsk, Text: source})
	parts := 0
	for ; s.Do(api.Event{Kind: api.EvAsk}).Err == api.ErrState; parts++ {
		do(api.Event{Kind: api.EvRun, N: 7})
	}
	if parts < 5 {
		t.Error("it was over in", parts)
	}
	do(api.Event{Kind: api.EvAbort})
	list[len(list)-1] = commit(0, 2)
	can(t, behind(t, list[:len(list)-1]), commit(0, 2))
	list[3].e.N = 8
	list[4].e.N = 1000
	cannot(t, behind(t, list[:len(list)-1]), commit(0, 2))
}

// P23.1: a commit's number, and that it happens once.
func TestCommit(t *testing.T) {
	for _, n := range []int64{0, 1, 3, -2, math.MaxInt64, math.MinInt64, 1<<32 + 2} {
		cannot(t, behind(t, put()), commit(0, n))
		if n != 1 {
			cannot(t, behind(t, steps(login(0))), commit(0, n))
		}
	}
	m := behind(t, steps(put(), commit(0, 2), commit(0, 2), does(0, "Root at: #x put: 2", "2"), commit(0, 3)))
	for first := int64(2); first <= 3; first++ { // all ahead of the last one is forgotten at the next one
		is(t, m, 3, 0)
		if m.Table().First() != first {
			t.Errorf("the first commit that can be asked is %d, not %d", m.Table().First(), first)
		}
		can(t, m, commit(0, 3))
	}
	cannot(t, m, commit(0, 4))
	m = behind(t, steps(login(1), does(1, "Root size", "0"), commit(1, 1)))
	is(t, m, 1, 1)
	cannot(t, m, commit(1, 2))
	can(t, behind(t, put()), told{api.Event{Kind: api.EvCommit, N: 5, Text: "x"}, api.Reply{N: 2, Text: "y", At: 4}})
}

// P23.1: a commit that is refused is none, though its reply has the number.
func TestCommitRefused(t *testing.T) {
	list := steps(put(), asking(0, "3", api.Reply{}))
	for n := range int64(3) {
		cannot(t, behind(t, list), commit(0, n)) // it is busy
	}
	list = steps(login(0), does(0, "Root at: #b put: RcBag new. (Root at: #b) add: 9. nil", "nil"), commit(0, 2),
		login(1), does(0, "(Root at: #b) remove: 9. nil", "nil"), does(1, "(Root at: #b) remove: 9. nil", "nil"), commit(0, 3))
	m := behind(t, list)
	for _, oop := range m.Table().Oops(m.Last()) {
		cannot(t, m.Copy(), commit(1, oop)) // one of them is the Bag
	}
}

// P23.1: a step that is not OK changes nothing, and what was asked stays.
func TestNotOK(t *testing.T) {
	for _, kind := range []int{api.EvCommit, api.EvAbort, api.EvLogout} {
		m := behind(t, put())
		for _, err := range []api.Errno{api.ErrArg, api.ErrClash, api.ErrState, api.ErrFull, api.ErrDead, api.ErrNone, api.ErrNil, -5, 99} {
			can(t, m, by(0, kind, failed(err)), by(0, kind, api.Reply{Err: err, N: 2, Text: "x"}))
		}
		is(t, m, 1, 0)
		can(t, m, does(0, "Root at: #y put: 2", "2")...)
		can(t, m, commit(0, 2), login(1))
		can(t, m, does(1, "Root", "1:Dictionary(#x 1 #y 2)")...)
		can(t, m, commit(1, 2))
	}
}

// P23.1: EvAbort and EvLogout let go of what was asked.
func TestAbortAndLogout(t *testing.T) {
	m := behind(t, steps(put(), by(0, api.EvAbort, api.Reply{})))
	is(t, m, 1, 0)
	cannot(t, m.Copy(), commit(0, 2))
	can(t, m, commit(0, 1))
	can(t, m, asking(0, "[true] whileTrue: [1]", api.Reply{}), running(0, 100, api.Reply{}), by(0, api.EvAbort, api.Reply{}), commit(0, 1))
	can(t, m, told{api.Event{Kind: api.EvAbort}, api.Reply{N: 8, Text: "x", At: 1}})
	m = behind(t, steps(put(), login(2), by(0, api.EvLogout, api.Reply{})))
	is(t, m, 1, 2)
	cannot(t, m.Copy(), commit(0, 2))
	can(t, m, commit(0, 0).with(failed(api.ErrNone)), by(2, api.EvLogout, number(5)))
	is(t, m, 1)
}

// with is the same step with another reply.
func (x told) with(r api.Reply) told { return told{x.e, r} }

// P23.1: a transaction is done as it would be alone, right at its commit: whoever read what somebody else has written since can not commit.
func TestOneBehindTheOther(t *testing.T) {
	list := steps(put(), login(1), does(1, "Root size", "0"), does(1, "Root at: #y put: 2", "2"))
	can(t, behind(t, list), commit(1, 2))
	cannot(t, behind(t, steps(list, commit(0, 2))), commit(1, 3))
	can(t, behind(t, steps(list, commit(1, 2))), commit(0, 3)) // it has read nothing that could tell
	list = steps(put(), login(1), does(1, "Root size", "1"))
	cannot(t, behind(t, list), commit(1, 1))
	can(t, behind(t, steps(list, commit(0, 2))), commit(1, 2))
}

// P23.1: Counters and Bags.
func TestAddedByMany(t *testing.T) {
	m := behind(t, steps(login(0), login(1), does(0, "Root at: #c put: RcCounter new. Root at: #b put: RcBag new. (Root at: #b) add: 9. nil", "nil"), commit(0, 2)))
	for who := range 2 {
		can(t, m, by(who, api.EvAbort, api.Reply{}))
		can(t, m, does(who, "(Root at: #c) increment: 3. (Root at: #b) remove: 9; add: 5. nil", "nil")...)
	}
	can(t, m, commit(1, 3))
	cannot(t, m.Copy(), commit(0, 4)) // what is not there can not be taken
	can(t, m, commit(0, 4).with(api.Reply{Err: api.ErrClash, N: 20}), by(0, api.EvAbort, api.Reply{}))
	can(t, m, does(0, "(Root at: #c) increment: 4. nil", "nil")...)
	can(t, m, does(1, "(Root at: #c) increment: 1. nil", "nil")...)
	can(t, m, commit(0, 4), commit(1, 5))
	can(t, m, does(0, "(Root at: #c) value", "8")...)
	can(t, m, does(0, "Root at: #b", "1:RcBag(5)")...)
	can(t, m, commit(0, 5))
}

// P23.1: EvCheckpoint and EvFail can be, whatever the reply, and change nothing.
func TestCheckpointAndFail(t *testing.T) {
	m := behind(t, put())
	for _, kind := range []int{api.EvCheckpoint, api.EvFail} {
		for _, r := range []api.Reply{{}, number(5), failed(api.ErrDead), failed(api.ErrFull), failed(api.ErrArg), {Err: 99, Text: "x", At: -1, N: math.MinInt64}} {
			for _, n := range []int{0, 1, -1, math.MaxInt, math.MinInt} {
				can(t, m, told{api.Event{Kind: kind, N: n}, r})
			}
		}
	}
	is(t, m, 1, 0)
	can(t, m, commit(0, 2))
}

// P23.1: EvSweep.
func TestSweep(t *testing.T) {
	m := behind(t, lost())
	for _, n := range []int64{0, 4} {
		cannot(t, m.Copy(), by(0, api.EvSweep, number(n))) // a session is open
	}
	for _, err := range []api.Errno{api.ErrOpen, api.ErrFull, api.ErrDead, 99} {
		can(t, m, by(0, api.EvSweep, failed(err)), by(0, api.EvSweep, api.Reply{Err: err, N: 4}))
	}
	is(t, m, 3, 0)
	can(t, m, by(0, api.EvLogout, api.Reply{}), by(0, api.EvSweep, failed(api.ErrFull)))
	is(t, m, 3)
	for _, n := range []int64{0, 1, 3, 5, -4, math.MaxInt64, math.MinInt64, 1<<32 + 4} {
		cannot(t, m.Copy(), by(0, api.EvSweep, number(n)))
	}
	can(t, m, by(0, api.EvSweep, number(4)))
	is(t, m, 4)
	if m.Table().First() != 4 {
		t.Errorf("the first commit that can be asked is %d", m.Table().First())
	}
	cannot(t, m.Copy(), by(0, api.EvSweep, number(4)))
	can(t, m, by(0, api.EvSweep, number(0)), login(0))
	is(t, m, 4, 0)
	can(t, m, does(0, "Root", "1:Dictionary(#x 1)")...)
	can(t, m, commit(0, 4))
}

// P23.1: a sweep lets go of how all was, whether something is lost or not.
func TestSweepForgets(t *testing.T) {
	m := behind(t, steps(put(), commit(0, 2), by(0, api.EvLogout, api.Reply{}), by(0, api.EvSweep, api.Reply{})))
	if x := m.Table(); x.First() != 2 || x.Last() != 2 {
		t.Errorf("from %d to %d", x.First(), x.Last())
	}
}

// P23.1: EvCrash can not be.
func TestCrash(t *testing.T) {
	for _, list := range [][]told{nil, put(), lost()} {
		for _, r := range []api.Reply{{}, number(1), number(2), failed(api.ErrDead), failed(api.ErrArg), failed(api.ErrNone)} {
			cannot(t, behind(t, list), by(0, api.EvCrash, r))
		}
	}
}

// P23.1: a kind that there is not.
func TestNoKind(t *testing.T) {
	m := behind(t, put())
	for _, kind := range []int{0, -1, api.EvSweep + 1, 99, math.MaxInt, math.MinInt, 1<<32 + 1} {
		can(t, m, by(0, kind, failed(api.ErrArg)), by(7, kind, api.Reply{Err: api.ErrArg, Text: "x", N: 2}))
		for _, r := range []api.Reply{{}, number(2), failed(api.ErrNone), failed(api.ErrDead), failed(api.ErrState)} {
			cannot(t, m.Copy(), by(0, kind, r))
		}
	}
	can(t, m, commit(0, 2))
}

// P23.1: behind what can not be, the sessions and all objects are as they were, and nothing can be.
func TestBehindWhatCanNotBe(t *testing.T) {
	m := behind(t, steps(put(), commit(0, 2), login(3), does(0, "Root at: #y put: 2", "2")))
	cannot(t, m, commit(0, 4))
	is(t, m, 2, 0, 3)
	if m.Step(api.Event{Kind: api.EvCommit}, number(3)) {
		t.Error("what could have been can be")
	}
	c := m.Copy()
	isClosed(t, c)
	is(t, c, 2, 0, 3)
	is(t, m, 2, 0, 3)
}

// P23.1: copies go on alone.
func TestCopy(t *testing.T) {
	m := behind(t, steps(put(), commit(0, 2), login(2), does(2, "Root at: #y put: 2", "2"), does(0, "3", "3"), asking(0, "[Root at: #x put: 7] value", api.Reply{})))
	c := m.Copy()
	if !look(m).same(look(c)) {
		t.Error("the copy is another one")
	}
	can(t, m, running(0, 9, api.Reply{Text: "7", N: 1}))
	can(t, c, running(0, 0, api.Reply{}), running(0, 9, api.Reply{Text: "7", N: 1}), login(1), by(2, api.EvLogout, api.Reply{}))
	is(t, m, 2, 0, 2)
	is(t, c, 2, 0, 1)
	can(t, c, commit(0, 3))
	is(t, m, 2, 0, 2)
	is(t, c, 3, 0, 1)
	can(t, m, commit(2, 3))
	can(t, m, does(2, "Root", "1:Dictionary(#x 1 #y 2)")...)
	can(t, c, does(1, "Root", "1:Dictionary(#x 7)")...)
	can(t, m, commit(2, 3), commit(0, 4))
	can(t, c, commit(1, 3))
	x := c.Copy()
	cannot(t, c, by(1, api.EvCrash, api.Reply{}))
	can(t, x, does(1, "Root at: #z put: 1", "1")...)
	can(t, x, commit(1, 4))
	is(t, c, 3, 0, 1)
	is(t, m, 4, 0, 2)
	can(t, m, commit(0, 4))
}

// P23.1: a copy has what the other one had forgotten, and nothing of it.
func TestCopyForgets(t *testing.T) {
	m := fresh(t)
	for _, x := range steps(lost(), does(0, "Root at: #x put: nil", "nil"), commit(0, 4), by(0, api.EvLogout, api.Reply{}), by(0, api.EvSweep, number(4))) {
		can(t, m, x)
		a, b := m.Table(), m.Copy().Table()
		if a.First() != b.First() {
			t.Errorf("from %d on, of a copy from %d on", a.First(), b.First())
		}
		for commit := a.First(); commit <= a.Last(); commit++ {
			for oop := range int64(200) {
				o, err := a.At(commit, oop)
				p, err2 := b.At(commit, oop)
				if err != err2 || !value.Same(o, p) || a.Changed(oop) != b.Changed(oop) {
					t.Fatalf("the object %d is another one behind %d", oop, commit)
				}
			}
		}
	}
}

// P23.2: Check.
func TestCheck(t *testing.T) {
	list := steps(put(), commit(0, 2), does(0, "Root size", "1"), commit(0, 2))
	var script []api.Event
	var replies []api.Reply
	for _, x := range list {
		script, replies = append(script, x.e), append(replies, x.r)
	}
	check := func(script []api.Event, replies []api.Reply, want int, right bool) {
		t.Helper()
		if n, ok := serial.Check(script, replies); n != want || ok != right {
			t.Errorf("Check = %d, %v; want %d, %v", n, ok, want, right)
		}
	}
	check(nil, nil, 0, true)
	check(script, nil, 0, true)
	check(nil, replies, 0, true)
	check(script, replies, len(list), true)
	for n := range len(list) {
		check(script[:n], replies, n, true)
		check(script, replies[:n], n, true)
		wrong := append(append([]api.Event(nil), script[:n]...), api.Event{Kind: api.EvCrash})
		check(append(wrong, script[n:]...), append(append([]api.Reply(nil), replies...), api.Reply{}), n, false)
		check(wrong, replies, n, false)
		check(wrong, replies[:n], n, true)
	}
	replies[2].Text = "2"
	check(script, replies, 3, false)
	check(script[:3], replies, 3, true)
	check(script, replies, 3, false) // each one is a new model
	replies[2].Text, replies[3].N = "1", 3
	check(script, replies, 3, false)
	check(script, replies[:3], 3, true)
}
