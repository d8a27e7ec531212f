package session_test

import (
	"math"
	"slices"
	"strings"
	"testing"

	"lapidary/api"
	"lapidary/session"
	"lapidary/store"
	"lapidary/valid"
)

// P21.1: no store, no world, and worlds that Make did not make or that have no store that Open made.
func TestNoWorld(t *testing.T) {
	if w := session.Make(nil); w != nil {
		t.Error("Make of no store is one")
	}
	var none *session.World
	for _, w := range []*session.World{none, {}, session.Make(&store.Store{})} {
		if s, err := w.Session(); s != nil || err != api.ErrNil {
			t.Errorf("Session of no world = %v, %d", s, err)
		}
		if w.Open() != 0 {
			t.Error("Open of no world", w.Open())
		}
	}
	if none.Store() != nil {
		t.Error("no world has a store")
	}
}

// P21.1: a world of a store; each store has worlds of its own.
func TestMake(t *testing.T) {
	w := world(t)
	if w.Store() == nil || w.Open() != 0 {
		t.Error("Make", w.Store(), w.Open())
	}
	other := session.Make(w.Store())
	if other == w || other.Store() != w.Store() {
		t.Error("another world of the same store")
	}
	joins(t, w)
	if w.Open() != 1 || other.Open() != 0 {
		t.Error("a session of one world is open in another one")
	}
}

// P21.1: four sessions may be open; a fifth one is refused, till one of them is closed.
func TestFifthSession(t *testing.T) {
	w := world(t)
	var all []*session.Session
	for i := range api.MaxSessions {
		all = append(all, joins(t, w))
		if w.Open() != i+1 {
			t.Errorf("%d are open, want %d", w.Open(), i+1)
		}
	}
	refused := func() {
		t.Helper()
		if s, err := w.Session(); s != nil || err != api.ErrFull || w.Open() != 4 {
			t.Errorf("a fifth session: %v, %d; %d are open", s, err, w.Open())
		}
	}
	refused()
	refused()
	replies(t, "Close", all[1].Close(), api.Reply{})
	if w.Open() != 3 {
		t.Error("open", w.Open())
	}
	all[1].Close()
	if w.Open() != 3 {
		t.Error("one that was closed twice counts twice")
	}
	all[1] = joins(t, w)
	refused()
	for i, s := range all {
		says(t, s, "3 + 4", "7")
		replies(t, "Close", s.Close(), api.Reply{})
		if w.Open() != 3-i {
			t.Errorf("%d are open, want %d", w.Open(), 3-i)
		}
	}
}

// P21.1: a session sees the last commit of when it was made.
func TestSessionSeesTheLastCommit(t *testing.T) {
	w := world(t)
	a := joins(t, w)
	did(t, a, 1, nil, nil)
	laying(t, w, "Root at: #x put: 5")
	b := joins(t, w)
	did(t, b, 2, nil, nil)
	says(t, b, "Root at: #x", "5")
	fails(t, a, "Root at: #x", "no such key")
	if a.Busy() || a.Base() != 1 || b.Base() != 2 {
		t.Error("Base", a.Base(), b.Base())
	}
}

// all calls of a session that answer a Reply.
func calls(s *session.Session) map[string]func() api.Reply {
	return map[string]func() api.Reply{
		"Ask":    func() api.Reply { return s.Ask("3 + 4") },
		"Ask ]":  func() api.Reply { return s.Ask("]") },
		"Run":    func() api.Reply { return s.Run(9) },
		"Commit": s.Commit,
		"Abort":  s.Abort,
		"Close":  s.Close,
	}
}

// P21.1: of a nil session.
func TestNilSession(t *testing.T) {
	var s *session.Session
	for name, call := range calls(s) {
		replies(t, name, call(), api.Reply{Err: api.ErrNil})
	}
	if s.Busy() || s.Base() != 0 || !sameTxn(s.Did(), valid.Txn{}) {
		t.Error("of nil", s.Busy(), s.Base(), s.Did())
	}
}

// P21.1, P21.4: of one that is closed, also while it was busy, and with something done; only its Base is told.
func TestClosed(t *testing.T) {
	w := world(t)
	laying(t, w, "Root at: #x put: 5")
	for _, busy := range []bool{false, true} {
		s := joins(t, w)
		does(t, s, "Root at: #x put: 6")
		if busy {
			replies(t, "Ask", s.Ask("Root at: #x put: 7"), api.Reply{})
		}
		replies(t, "Close", s.Close(), api.Reply{})
		laying(t, w, "Root at: #y put: 5")
		for range 2 {
			for name, call := range calls(s) {
				replies(t, name, call(), api.Reply{Err: api.ErrState})
			}
		}
		if s.Busy() {
			t.Error("who is closed is busy")
		}
		did(t, s, w.Store().Last()-1, nil, nil)
	}
	if w.Open() != 0 {
		t.Error("open", w.Open())
	}
	s := joins(t, w)
	says(t, s, "Root at: #x", "5")
}

// P21.1, P7: a session that no world made does nothing.
func TestSessionOfNobody(t *testing.T) {
	s := &session.Session{}
	for name, call := range calls(s) {
		replies(t, name, call(), api.Reply{Err: api.ErrState})
	}
	if s.Busy() || s.Base() != 0 || !sameTxn(s.Did(), valid.Txn{}) {
		t.Error("of nobody", s.Did())
	}
}

// P21.2: sources that are none, with their places; it is not busy then, and nothing was read.
func TestAskOfNoSource(t *testing.T) {
	w := world(t)
	s := joins(t, w)
	cases := []struct {
		source string
		at     int
		err    api.Errno
	}{
		{"a ]", 2, api.ErrSyntax},
		{"]", 0, api.ErrSyntax},
		{"'abc", 0, api.ErrSyntax},
		{"3 +", 3, api.ErrSyntax},
		{"3 + a", 4, api.ErrName},
		{"Root := 3", 0, api.ErrName},
		{"\xff", 0, api.ErrSyntax},
		{"Root at: #x put: 1. \x00", 20, api.ErrSyntax},
		{strings.Repeat("(", 41) + "3" + strings.Repeat(")", 41), 40, api.ErrSize},
		{strings.Repeat(" ", api.MaxText+1), 0, api.ErrSize},
	}
	for _, c := range cases {
		replies(t, c.source, s.Ask(c.source), api.Reply{Err: c.err, At: c.at})
		if s.Busy() {
			t.Errorf("it is busy with %q", c.source)
		}
		did(t, s, 1, nil, nil)
		replies(t, "Run", s.Run(9), api.Reply{Err: api.ErrState})
	}
	says(t, s, "3 + 4", "7")
	does(t, s, "Root at: #x put: 1")
	before := s.Did()
	s.Ask("a ]")
	if !sameTxn(s.Did(), before) {
		t.Error("a source that is none changed something")
	}
	says(t, s, "Root at: #x", "1")
}

// P21.2: while it is busy no other source is taken, not even to tell that it is none; the first one goes on.
func TestAskWhileBusy(t *testing.T) {
	s := joins(t, world(t))
	replies(t, "Ask", s.Ask("3 + 4 + 5"), api.Reply{})
	for _, source := range []string{"8", "", "a ]", strings.Repeat(" ", 5000)} {
		replies(t, source, s.Ask(source), api.Reply{Err: api.ErrState})
	}
	replies(t, "Run", s.Run(1), api.Reply{})
	replies(t, "Ask", s.Ask("a ]"), api.Reply{Err: api.ErrState})
	replies(t, "Run", s.Run(1), api.Reply{Text: "12", N: 1})
	replies(t, "Ask", s.Ask("8"), api.Reply{})
	replies(t, "Run", s.Run(0), api.Reply{Text: "8", N: 1})
}

// P21.2: a Run of one that is not busy; ahead of an Ask, behind its end, behind an Abort and a Commit.
func TestRunOfOneThatIsNotBusy(t *testing.T) {
	w := world(t)
	s := joins(t, w)
	idle := func() {
		t.Helper()
		for _, n := range []int{0, 1, -1, math.MaxInt, math.MinInt} {
			replies(t, "Run", s.Run(n), api.Reply{Err: api.ErrState})
		}
		if s.Busy() {
			t.Error("it is busy")
		}
	}
	idle()
	says(t, s, "3 + 4", "7")
	idle()
	fails(t, s, "nil foo", "does not understand foo")
	idle()
	s.Ask("3 + 4")
	s.Abort()
	idle()
	does(t, s, "Root at: #x put: 1")
	commits(t, w, s, 2)
	idle()
}

// P21.2: a Run of no steps, of fewer than it needs, of just as many, of more; a source without steps is over in none.
func TestRunOfSteps(t *testing.T) {
	s := joins(t, world(t))
	for _, n := range []int{0, -1, math.MinInt} {
		replies(t, "Ask", s.Ask("8"), api.Reply{})
		replies(t, "Run", s.Run(n), api.Reply{Text: "8", N: 1})
		replies(t, "Ask", s.Ask("3 + 4"), api.Reply{})
		for range 3 {
			replies(t, "Run", s.Run(n), api.Reply{})
			if !s.Busy() {
				t.Error("it is not busy")
			}
		}
		replies(t, "Run", s.Run(1), api.Reply{Text: "7", N: 1})
		if s.Busy() {
			t.Error("it is busy behind its end")
		}
	}
	replies(t, "Ask", s.Ask("1 + 2 + 3 + 4"), api.Reply{})
	replies(t, "Run", s.Run(2), api.Reply{})
	replies(t, "Run", s.Run(0), api.Reply{})
	replies(t, "Run", s.Run(math.MaxInt), api.Reply{Text: "10", N: 1})
	replies(t, "Ask", s.Ask("[true] whileTrue: [1]"), api.Reply{})
	for _, n := range []int{100, 20000, 20001, math.MaxInt} {
		replies(t, "Run", s.Run(n), api.Reply{})
	}
	replies(t, "Abort", s.Abort(), api.Reply{})
	says(t, s, "3 + 4", "7")
}

// P21.2: however it is parted, the same comes of it.
func TestRunInParts(t *testing.T) {
	w := world(t)
	const source = "| a | a := Array new: 3. 1 to: 3 do: [:i | a at: i put: i * i]. Root at: #x put: a. Root"
	const want = "1:Dictionary(#x 2:Array(1 4 9))"
	for _, part := range []int{1, 2, 7, 1000} {
		s := joins(t, w)
		replies(t, "Ask", s.Ask(source), api.Reply{})
		var r api.Reply
		for range 500 {
			if r = s.Run(part); r.N == 1 {
				break
			}
			replies(t, "Run", r, api.Reply{})
		}
		replies(t, "Run", r, api.Reply{Text: want, N: 1})
		s.Close()
	}
}

// P21.2: an error that nobody catches ends it: ErrArg, and its text; what it did ahead of that stays.
func TestRunEndsByAnError(t *testing.T) {
	w := world(t)
	s := joins(t, w)
	list := []string{
		"1 / 0", "by nought",
		"nil foo", "does not understand foo",
		"Nowhere", "no such name",
		"nil error: 'my own'", "my own",
		"nil error: ''", "error",
		"Root at: 1", "no such key",
		"Root at: 1 put: [3]", "can not be kept",
		"Object subclass: #P slots: 'x'. P compile: 'f ^self f'. P new f", "too deep",
		"Root at: #y put: 8. 1 / 0", "by nought",
	}
	for i := 0; i < len(list); i += 2 {
		fails(t, s, list[i], list[i+1])
		if s.Busy() {
			t.Errorf("it is busy behind %q", list[i])
		}
	}
	says(t, s, "[1 / 0] onError: [:e | e]", "'by nought'")
	says(t, s, "Root at: #y", "8")
	commits(t, w, s, 2)
	says(t, s, "Root at: #y", "8")
	says(t, s, "P", "class P")
}

// P21.2: texts of values of each kind.
func TestTexts(t *testing.T) {
	s := joins(t, world(t))
	list := []string{
		"", "nil", "nil", "nil", "true", "true", "false", "false", "0 - 5", "-5", "[3]", "a Block",
		"'it''s'", "'it''s'", "#abc", "#abc", "'a b' asSymbol", "#'a b'",
		"25 factorial", "15511210043330985984000000", "Array", "class Array",
		"#(1 #a 'x')", "1:Array(1 #a 'x')",
		"| a | a := Array new: 1. a at: 1 put: a. a", "1:Array(@1)",
		"Root", "1:Dictionary()", "RcCounter new", "1:RcCounter(0)",
		"(1 im: 2) = (1 im: 2)", "true", "((1 im: 2) * (3 im: 4)) re", "-5",
		"25 factorial asString", "'15511210043330985984000000'",
	}
	for i := 0; i < len(list); i += 2 {
		says(t, s, list[i], list[i+1])
	}
	r := say(t, s, "Array new: 256")
	if r.Err != api.OK || r.N != 1 || r.Text != "1:Array(nil"+strings.Repeat(" nil", 255)+")" {
		t.Error("a long text", r)
	}
	r = say(t, s, "| a | a := Array new: 256. 1 to: 256 do: [:i | a at: i put: 1000000000 + i]. a")
	if r.Err != api.OK || r.N != 1 || len(r.Text) != 2000 || !strings.HasPrefix(r.Text, "1:Array(1000000001 1000000002 ") {
		t.Error("a text that is cut", len(r.Text))
	}
}

// P21.2: what is shown was read, though the source did not read it; of an error nothing is.
func TestWhatIsShownWasRead(t *testing.T) {
	w := world(t)
	laying(t, w, "Root at: #x put: (Array new: 1). (Root at: #x) at: 1 put: 'deep'") // #x, Array, String
	s := joins(t, w)
	says(t, s, "Root at: #x. nil", "nil")
	if read(s, second) || read(s, third) || read(s, 10) || !read(s, 15) {
		t.Error("what nobody showed was read", s.Did())
	}
	fails(t, s, "Root at: #x. 1 / 0", "by nought")
	if read(s, second) || read(s, third) || read(s, 10) {
		t.Error("an error showed something", s.Did())
	}
	replies(t, "Ask", s.Ask("Root at: #x"), api.Reply{})
	replies(t, "Run", s.Run(1), api.Reply{Text: "1:Array('deep')", N: 1})
	for _, oop := range oops(second, third, 10, 8) { // the Array, the String, and their classes
		if !read(s, oop) {
			t.Errorf("%d was shown, and not read: %v", oop, s.Did())
		}
	}
	if slices.ContainsFunc(s.Did().Reads, func(oop int64) bool { return oop > api.MaxOops }) {
		t.Error("new objects were read", s.Did())
	}
}

// P21.2: an Abort of nothing, of what was done, of a run that is not over, and of Ops.
func TestAbort(t *testing.T) {
	w := world(t)
	laying(t, w, "Root at: #c put: RcCounter new", "Root at: #x put: 1")
	a := joins(t, w)
	replies(t, "Abort", a.Abort(), api.Reply{})
	did(t, a, 2, nil, nil)
	does(t, a, "Root at: #x put: 2", "(Root at: #c) increment: 5")
	says(t, a, "Root at: #x", "2")
	replies(t, "Ask", a.Ask("(Root at: #c) increment: 7. [true] whileTrue: [1]"), api.Reply{})
	replies(t, "Run", a.Run(50), api.Reply{})
	replies(t, "Abort", a.Abort(), api.Reply{})
	did(t, a, 2, nil, nil)
	if a.Busy() {
		t.Error("it is busy behind Abort")
	}
	says(t, a, "Root at: #x", "1")
	says(t, a, "(Root at: #c) value", "0")
	replies(t, "Abort", a.Abort(), api.Reply{})
	replies(t, "Commit", a.Commit(), api.Reply{N: 2}) // no Op is left
	laying(t, w, "Root at: #x put: 3")
	says(t, a, "Root at: #x", "1")
	replies(t, "Abort", a.Abort(), api.Reply{})
	did(t, a, 3, nil, nil)
	says(t, a, "Root at: #x", "3")
}

// P21.4: what was read and written, and what Ops name is not among it; Base alone while it is busy.
func TestDid(t *testing.T) {
	w := world(t)
	laying(t, w, "Root at: #c put: RcCounter new") // 17 and 18
	s := joins(t, w)
	did(t, s, 2, nil, nil)
	says(t, s, "3 + 4", "7")
	does(t, s, "(Root at: #c) increment: 2")
	if x := s.Did(); len(x.Writes) != 0 || read(s, second) || !read(s, 15) {
		t.Error("an Op was read or written", x)
	}
	replies(t, "Ask", s.Ask("Root at: #y put: 3"), api.Reply{})
	did(t, s, 2, nil, nil)
	s.Run(0)
	did(t, s, 2, nil, nil)
	s.Run(1)
	if x := s.Did(); !slices.Equal(x.Writes, oops(15)) || x.Base != 2 || x.Commit != 0 {
		t.Error("what was written", x)
	}
	says(t, s, "(Root at: #c) value", "2")
	if x := s.Did(); !slices.Equal(x.Writes, oops(15)) || !read(s, second) {
		t.Error("a Counter that was read too", x)
	}
}

// P21.4, rule 4: what a caller writes into an answer is seen by no later one.
func TestDidSharesNothing(t *testing.T) {
	w := world(t)
	s := joins(t, w)
	does(t, s, "Root at: #x put: 1")
	x, before := s.Did(), s.Did()
	for _, list := range [][]int64{x.Reads, x.Writes} {
		for i := range list {
			list[i] = 99
		}
		_ = append(list, 99)
	}
	if !sameTxn(s.Did(), before) {
		t.Error("Did", s.Did(), before)
	}
	commits(t, w, s, 2)
}
