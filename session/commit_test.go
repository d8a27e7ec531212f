package session_test

import (
	"fmt"
	"slices"
	"strings"
	"testing"

	"lapidary/api"
	"lapidary/class"
	"lapidary/session"
	"lapidary/store"
	"lapidary/sweep"
)

// The chapter's example, and the ones of DOC.md that tell of sessions.
func TestExamples(t *testing.T) {
	w, a, b := two(t)
	replies(t, "Ask", a.Ask("3 + 4"), api.Reply{})
	replies(t, "Run", a.Run(9), api.Reply{Text: "7", N: 1})
	says(t, a, "Root at: #x put: 1", "1")
	says(t, b, "Root at: #y put: 1", "1")
	commits(t, w, a, 2)
	clashes(t, w, b, 15)
	replies(t, "Ask", b.Ask("a ]"), api.Reply{Err: api.ErrSyntax, At: 2})
	b.Abort()
	does(t, a, "Object subclass: #P slots: 'x'. P compile: 'x: n x := n'. P compile: 'x ^x'")
	commits(t, w, a, 3)
	fails(t, b, "(P new) x: 5; x", "no such name")
	b.Abort()
	says(t, b, "(P new) x: 5; x", "5")
}

// P21.3: while it is busy nothing is committed; the run goes on, and all of it is committed then.
func TestCommitWhileBusy(t *testing.T) {
	w := world(t)
	s := joins(t, w)
	does(t, s, "Root at: #x put: 1")
	replies(t, "Ask", s.Ask("Root at: #y put: 2. 3 + 4"), api.Reply{})
	refuses(t, w, s, api.Reply{Err: api.ErrState})
	replies(t, "Run", s.Run(1), api.Reply{})
	refuses(t, w, s, api.Reply{Err: api.ErrState})
	replies(t, "Run", s.Run(1), api.Reply{Text: "7", N: 1})
	commits(t, w, s, 2)
	says(t, s, "(Root at: #x) + (Root at: #y)", "3")
}

// P21.3: a Commit of nothing writes nothing; its number is the store's last one, and the view is made anew.
func TestCommitOfNothing(t *testing.T) {
	w, a, b := two(t)
	room := w.Store().Room()
	for range 3 {
		commits(t, w, a, 1)
	}
	for _, source := range []string{"3 + 4", "Root", "#(1 2 3)", "1 / 0. 4", "RcCounter new increment: 4", "(Array new: 3) at: 1 put: 5"} {
		say(t, a, source)
		commits(t, w, a, 1)
	}
	if w.Store().Room() != room {
		t.Error("something was written")
	}
	does(t, b, "Root at: #x put: 1")
	commits(t, w, b, 2)
	says(t, a, "3 + 4", "7") // reads nothing that b wrote
	commits(t, w, a, 2)
	says(t, a, "Root at: #x", "1")
	commits(t, w, a, 2)
}

// P21.3: of objects alone: what was written, and new objects at the least free oops, in the order in which they come.
func TestCommitOfObjects(t *testing.T) {
	w := world(t)
	s := joins(t, w)
	does(t, s, "#lost. Root at: #x put: #(1 'y')", "#(3 4)")
	commits(t, w, s, 2)
	changed(t, w, 2, 15, first, second, third)
	stands(t, w, 15, slots(class.Dictionary, ref(first), ref(second)))
	stands(t, w, first, text(class.Symbol, "x"))
	stands(t, w, second, slots(class.Array, integer(1), ref(third)))
	stands(t, w, third, text(class.String, "y"))
	does(t, s, "(Root at: #x) at: 1 put: Object")
	commits(t, w, s, 3)
	changed(t, w, 3, second)
	stands(t, w, second, slots(class.Array, ref(class.Object), ref(third)))
	does(t, s, "Root at: #x put: nil", "Root at: #z put: true")
	commits(t, w, s, 4)
	changed(t, w, 4, 15, fourth)
	stands(t, w, 15, slots(class.Dictionary, ref(first), api.Val{}, ref(fourth), api.Val{K: api.True}))
	does(t, s, "Root at: #a put: (Root at: #b put: #(7))")
	commits(t, w, s, 5)
	changed(t, w, 5, 15, fifth, fifth+1, fifth+2)
}

// withCounters is a world with a Counter at 18 under c, a Bag with 1, 1 and 2 at 20 under b, and an Array of a slot at 36 under a.
func withCounters(t *testing.T) *session.World {
	t.Helper()
	w := world(t)
	addCounters(t, w)
	return w
}

func addCounters(t *testing.T, w *session.World) {
	t.Helper()
	laying(t, w, "Root at: #c put: RcCounter new. Root at: #b put: RcBag new. Root at: #a put: #(0). (Root at: #b) add: 2; add: 1; add: 1")
	stands(t, w, theCounter, slots(class.Counter, integer(0)))
	stands(t, w, theBag, slots(class.Bag, integer(1), integer(1), integer(2)))
	stands(t, w, theArray, slots(class.Array, integer(0)))
}

const (
	theCounter = second
	theBag     = fourth
	theArray   = fifth + 1
)

// P21.3, P21.6: of Ops alone; nothing but the Counter and the Bag is changed, and neither was read.
func TestCommitOfOps(t *testing.T) {
	w := withCounters(t)
	a, b := joins(t, w), joins(t, w)
	does(t, a, "(Root at: #c) increment: 5; decrement: 2", "(Root at: #b) add: true; remove: 1")
	does(t, b, "(Root at: #b) add: nil; remove: 1", "(Root at: #c) decrement: 10")
	commits(t, w, a, 3)
	changed(t, w, 3, theCounter, theBag)
	commits(t, w, b, 4)
	changed(t, w, 4, theCounter, theBag)
	stands(t, w, theCounter, slots(class.Counter, integer(-7)))
	stands(t, w, theBag, slots(class.Bag, api.Val{}, api.Val{K: api.True}, integer(2)))
	does(t, a, "(Root at: #c) increment: 1")
	commits(t, w, a, 5)
	changed(t, w, 5, theCounter)
	stands(t, w, theCounter, slots(class.Counter, integer(-6)))
}

// P21.3: of both kinds, rising, also where new objects take oops between.
func TestCommitOfBoth(t *testing.T) {
	w := withCounters(t)
	a, b := joins(t, w), joins(t, w)
	does(t, a, "(Root at: #c) increment: 5", "Root at: #d put: 'new'", "(Root at: #b) add: 0")
	does(t, b, "(Root at: #c) increment: 6", "(Root at: #a) at: 1 put: 'other'")
	commits(t, w, a, 3)
	changed(t, w, 3, 15, theCounter, theBag, fifth+2, fifth+3)
	clashes(t, w, b, 15)
	b.Abort()
	does(t, b, "(Root at: #c) increment: 6", "(Root at: #a) at: 1 put: 'other'")
	commits(t, w, b, 4)
	changed(t, w, 4, theCounter, theArray, fifth+4)
	stands(t, w, theCounter, slots(class.Counter, integer(11)))
	stands(t, w, theBag, slots(class.Bag, integer(0), integer(1), integer(1), integer(2)))
	stands(t, w, theArray, slots(class.Array, ref(fifth+4)))
}

// P21.3: new objects take an oop that is free below a Counter with an Op.
func TestNewObjectsBelowACounter(t *testing.T) {
	w := world(t)
	laying(t, w, "Root at: #x put: #(1). Root at: #c put: RcCounter new") // 17 to 20
	laying(t, w, "Root removeKey: #x")
	if n, err := sweep.Sweep(w.Store()); n != 2 || err != api.OK {
		t.Fatal("Sweep", n, err)
	}
	s := joins(t, w)
	does(t, s, "(Root at: #c) increment: 3. Root at: #y put: 'new'")
	commits(t, w, s, 5)
	changed(t, w, 5, 15, first, second, fourth)
	stands(t, w, fourth, slots(class.Counter, integer(3)))
	stands(t, w, second, text(class.String, "new"))
}

// P21.2, P21.3: Ops of all runs since the view was made, in order, those of a run that ended by an error too; a new Counter has none.
func TestOpsOfAllRuns(t *testing.T) {
	w := withCounters(t)
	a, b := joins(t, w), joins(t, w)
	does(t, a, "(Root at: #c) increment: 5")
	does(t, b, "(Root at: #c) increment: 100")
	fails(t, a, "(Root at: #c) increment: 7. 1 / 0", "by nought")
	does(t, a, "(Root at: #b) add: 9", "(Root at: #b) remove: 9", "| c | c := RcCounter new. c increment: 4")
	replies(t, "Ask", a.Ask("(Root at: #c) increment: 1. (Root at: #c) increment: 2. nil"), api.Reply{})
	for a.Busy() {
		a.Run(1)
	}
	commits(t, w, b, 3)
	commits(t, w, a, 4)
	stands(t, w, theCounter, slots(class.Counter, integer(115)))
	stands(t, w, theBag, slots(class.Bag, integer(1), integer(1), integer(2)))
	does(t, a, "(Root at: #c) increment: 1")
	commits(t, w, a, 5) // those that are committed are not done again
	stands(t, w, theCounter, slots(class.Counter, integer(116)))
}

// P21.3: who read what another one wrote clashes, though it wrote nothing; Ops count as written for those who read.
func TestClashByWhatWasRead(t *testing.T) {
	w := withCounters(t)
	a, b, c := joins(t, w), joins(t, w), joins(t, w)
	does(t, b, "(Root at: #a) at: 1")
	says(t, c, "(Root at: #c) value", "0")
	does(t, a, "(Root at: #a) at: 1 put: 5", "(Root at: #c) increment: 5")
	commits(t, w, a, 3)
	clashes(t, w, b, theArray)
	clashes(t, w, c, theCounter)
	for _, s := range []*session.Session{b, c} {
		s.Abort()
		says(t, s, "(Root at: #a) at: 1", "5")
		says(t, s, "(Root at: #c) value", "5")
		commits(t, w, s, 3)
	}
}

// P21.3: a Text shows objects that another one has changed since; without showing them it goes through.
func TestClashByWhatWasShown(t *testing.T) {
	w := withCounters(t)
	laying(t, w, "Root at: #deep put: (Array new: 1). (Root at: #deep) at: 1 put: (Root at: #a)")
	a, b, c := joins(t, w), joins(t, w), joins(t, w)
	says(t, b, "Root at: #deep", "1:Array(2:Array(0))")
	does(t, c, "Root at: #deep")
	does(t, a, "(Root at: #a) at: 1 put: 5")
	commits(t, w, a, 4)
	clashes(t, w, b, theArray)
	commits(t, w, c, 4)
	says(t, c, "Root at: #deep", "1:Array(2:Array(5))")
	// what increment: answers is the Counter itself, which is shown
	b.Abort()
	says(t, b, "(Root at: #c) increment: 3", "1:RcCounter(3)")
	does(t, a, "(Root at: #c) increment: 3")
	commits(t, w, a, 5)
	clashes(t, w, b, theCounter)
}

// P21.3: two who write the same object; a third one that wrote another one goes through.
func TestClashByWhatWasWritten(t *testing.T) {
	w := withCounters(t)
	laying(t, w, "Root at: #d put: #(0)")
	a, b, c := joins(t, w), joins(t, w), joins(t, w)
	does(t, a, "(Root at: #a) at: 1 put: 5")
	does(t, b, "(Root at: #a) at: 1 put: 5")
	does(t, c, "(Root at: #d) at: 1 put: 5")
	commits(t, w, a, 4)
	clashes(t, w, b, theArray)
	commits(t, w, c, 5)
	clashes(t, w, b, theArray)
}

// P21.3: the history has all that a commit changed, objects and what Ops name: each stands in the way of who read it.
func TestHistoryHasAllThatWasChanged(t *testing.T) {
	w := withCounters(t)
	a, b := joins(t, w), joins(t, w)
	does(t, b, "Root at: #b", "(Root at: #a) at: 1")
	does(t, a, "(Root at: #b) add: 4", "(Root at: #a) at: 1 put: #(7)")
	commits(t, w, a, 3)
	changed(t, w, 3, theBag, theArray, fifth+2)
	clashes(t, w, b, theArray)
	b.Abort()
	says(t, b, "(Root at: #b) size", "4")
	does(t, a, "(Root at: #b) remove: 4")
	commits(t, w, a, 4)
	clashes(t, w, b, theBag)
}

// P21.3: Ops that do not go any more: a Bag without what is taken, a full one, a Counter that would be too large.
func TestClashByOps(t *testing.T) {
	w := withCounters(t)
	laying(t, w, fmt.Sprintf("(Root at: #c) increment: %d", api.Small-10))
	a, b := joins(t, w), joins(t, w)
	does(t, a, "(Root at: #b) remove: 2")
	does(t, b, "(Root at: #b) remove: 2")
	commits(t, w, a, 4)
	clashes(t, w, b, theBag)
	b.Abort()
	does(t, a, "(Root at: #c) increment: 5")
	does(t, b, "(Root at: #c) increment: 5")
	commits(t, w, a, 5)
	clashes(t, w, b, theCounter)
	// the least object of which it does not go is told
	does(t, a, "(Root at: #b) remove: 1; remove: 1")
	does(t, b, "(Root at: #b) remove: 1")
	commits(t, w, a, 6)
	clashes(t, w, b, theCounter)
	b.Abort()
	does(t, b, "1 to: 256 do: [:i | (Root at: #b) add: i]")
	does(t, a, "(Root at: #b) add: 3")
	commits(t, w, b, 7)
	clashes(t, w, a, theBag)
	a.Abort()
	fails(t, a, "(Root at: #b) add: 3", "no room")
	commits(t, w, a, 7)
}

// P21.3: a clash by what was read is told ahead of one by Ops, though its object is a greater one; both ahead of a table without room.
func TestOrderOfClashes(t *testing.T) {
	_, w := laid(t, 2000, crowded(t, 8))
	addCounters(t, w) // takes six
	a, b := joins(t, w), joins(t, w)
	const more = "Root at: #new put: #(#(1) #(2) #(3))"
	does(t, b, "(Root at: #a) at: 1", "(Root at: #b) remove: 2", more)
	does(t, a, "(Root at: #a) at: 1 put: 1", "(Root at: #b) remove: 2")
	commits(t, w, a, 3)
	if theArray <= theBag {
		t.Fatal("the test tells nothing")
	}
	clashes(t, w, b, theArray)
	b.Abort()
	does(t, b, "(Root at: #b) remove: 1", more)
	does(t, a, "(Root at: #b) remove: 1; remove: 1")
	commits(t, w, a, 4)
	clashes(t, w, b, theBag)
	b.Abort()
	does(t, b, more)
	refuses(t, w, b, api.Reply{Err: api.ErrFull})
}

// P21.3: a table whose free oops are fewer than the new objects that are reached; those that are not reached need none.
func TestTableWithoutRoom(t *testing.T) {
	_, w := laid(t, 2000, crowded(t, 4))
	s := joins(t, w)
	does(t, s, "Root at: #x put: #(1 'a' 'b' 'c')")
	refuses(t, w, s, api.Reply{Err: api.ErrFull})
	says(t, s, "Root at: #x", "1:Array(1 'a' 'b' 'c')")
	does(t, s, "(Root at: #x) at: 2 put: 2") // one less is reached, but more are new
	commits(t, w, s, 2)
	if free := w.Store().Table().Free(9); len(free) != 0 {
		t.Error("free", free)
	}
	does(t, s, "Root at: 5 put: 'more'")
	refuses(t, w, s, api.Reply{Err: api.ErrFull})
	does(t, s, "Root at: 5 put: 6", "#(1 2 #(3 4))")
	commits(t, w, s, 3)
	says(t, s, "Root at: 5", "6")
	// what is gone is not free while somebody could see it
	does(t, s, "Root removeKey: #x")
	commits(t, w, s, 4)
	does(t, s, "Root at: 7 put: 'more'")
	refuses(t, w, s, api.Reply{Err: api.ErrFull})
}

// P21.3: a commit that has too many bytes for one record.
func TestCommitOfTooMuch(t *testing.T) {
	w := world(t)
	s := joins(t, w)
	const many = "| a | a := Array new: 70. 1 to: 70 do: [:i | a at: i put: (String new: 1000)]. Root at: #x put: a"
	does(t, s, many)
	refuses(t, w, s, api.Reply{Err: api.ErrSize})
	does(t, s, "20 to: 70 do: [:i | (Root at: #x) at: i put: nil]")
	commits(t, w, s, 2)
}

// P21.3, P22.4: a device without room: the transaction stays open, and goes through when there is room.
func TestStoreWithoutRoom(t *testing.T) {
	_, w := laid(t, 60, firstCommit(t))
	s, other := joins(t, w), joins(t, w)
	last := int64(1)
	for {
		does(t, s, "Root at: 1 put: (String new: 200)")
		if s.Commit() == (api.Reply{N: last + 1}) {
			last++
			continue
		}
		break
	}
	if last < 3 || last > 12 {
		t.Error("so many commits went through:", last)
	}
	refuses(t, w, s, api.Reply{Err: api.ErrFull})
	does(t, s, "Root at: 2 put: 5")
	refuses(t, w, s, api.Reply{Err: api.ErrFull})
	says(t, s, "(Root at: 1) size + (Root at: 2)", "205")
	replies(t, "Commit of nothing", other.Commit(), api.Reply{N: last})
	if err := w.Store().Checkpoint(); err != api.OK {
		t.Fatal("Checkpoint", err)
	}
	does(t, s, "Root at: 1 put: 6")
	commits(t, w, s, last+1)
	other.Abort()
	says(t, other, "(Root at: 1) + (Root at: 2)", "11")
}

// P21.3: a store that dies, and is dead: the session has all that it had; what needs no writing is answered still.
func TestDeadStore(t *testing.T) {
	d, w := laid(t, 400, firstCommit(t))
	s, other := joins(t, w), joins(t, w)
	does(t, s, "Root at: #x put: 1")
	d.Fail(1)
	before := s.Did()
	replies(t, "Commit", s.Commit(), api.Reply{Err: api.ErrDead})
	if !sameTxn(s.Did(), before) || s.Busy() || w.Open() != 2 || w.Store().Last() != 1 {
		t.Error("behind a device that died", s.Did(), before)
	}
	refuses(t, w, s, api.Reply{Err: api.ErrState})
	says(t, s, "Root at: #x", "1")
	commits(t, w, other, 1)
	does(t, other, "Root at: #x put: 2")
	refuses(t, w, other, api.Reply{Err: api.ErrState})
	replies(t, "Abort", s.Abort(), api.Reply{})
	did(t, s, 1, nil, nil)
	fails(t, s, "Root at: #x", "no such key")
	d.Crash(nil)
	again, err := store.Open(d)
	if err != api.OK || again.Last() != 1 {
		t.Fatal("Open", err)
	}
	says(t, joins(t, session.Make(again)), "Root", "1:Dictionary()")
}

// P21.3: errors that come ahead of a dead store's: a clash, Ops that do not go, a table without room.
func TestDeadStoreIsToldLast(t *testing.T) {
	d, w := laid(t, 2000, crowded(t, 7))
	addCounters(t, w)
	a, b, c, e := joins(t, w), joins(t, w), joins(t, w), joins(t, w)
	does(t, b, "(Root at: #a) at: 1", "(Root at: #a) at: 1 put: 9")
	does(t, c, "(Root at: #b) remove: 2")
	does(t, e, "(Root at: #c) increment: 1. Root at: #q put: #(1)")
	does(t, a, "(Root at: #a) at: 1 put: 5", "(Root at: #b) remove: 2")
	commits(t, w, a, 3)
	does(t, a, "(Root at: #a) at: 1 put: 6")
	d.Fail(1)
	replies(t, "Commit", a.Commit(), api.Reply{Err: api.ErrDead})
	clashes(t, w, b, theArray)
	clashes(t, w, c, theBag)
	refuses(t, w, e, api.Reply{Err: api.ErrFull})
	refuses(t, w, a, api.Reply{Err: api.ErrState})
	e.Abort()
	replies(t, "Ask", e.Ask("3 + 4"), api.Reply{})
	refuses(t, w, e, api.Reply{Err: api.ErrState})
}

// P21.3: an oop that is free in the store and is an object of the view can not be taken: somebody swept while it was open. Without new objects none is asked for.
func TestSweptWhileItWasOpen(t *testing.T) {
	w := world(t)
	laying(t, w, "Root at: #x put: #(1)")
	old, without := joins(t, w), joins(t, w)
	laying(t, w, "Root removeKey: #x")
	if n, err := sweep.Sweep(w.Store()); n != 2 || err != api.OK {
		t.Fatal("Sweep", n, err)
	}
	says(t, without, "3 + 4", "7")
	commits(t, w, without, 4)
	says(t, old, "(Array new: 1) size", "1")
	refuses(t, w, old, api.Reply{Err: api.ErrArg})
	old.Abort()
	does(t, old, "Root at: #y put: 3")
	commits(t, w, old, 5)
	changed(t, w, 5, 15, first)
}

// P21.6: two sessions add and take as they like without reading, in any order of their commits.
func TestCounterOfTwo(t *testing.T) {
	for _, turn := range []bool{false, true} {
		w := withCounters(t)
		a, b := joins(t, w), joins(t, w)
		does(t, a, "(Root at: #c) increment: 3", "(Root at: #c) decrement: 10")
		does(t, b, strings.Repeat("(Root at: #c) increment: 4. ", 5)+"nil")
		if turn {
			a, b = b, a
		}
		commits(t, w, a, 3)
		commits(t, w, b, 4)
		says(t, a, "(Root at: #c) value", map[bool]string{true: "20", false: "-7"}[turn])
		says(t, b, "(Root at: #c) value", "13")
		a.Abort()
		says(t, a, "(Root at: #c) value", "13")
	}
}

// P21.7: what one does another one does not see, till its own view is made anew.
func TestAlone(t *testing.T) {
	w := withCounters(t)
	a, b := joins(t, w), joins(t, w)
	sees := func(s *session.Session, x, c, p string) {
		t.Helper()
		says(t, s, "(Root at: #a) at: 1", x)
		says(t, s, "(Root at: #c) value", c)
		says(t, s, "Root includesKey: #P", p)
	}
	does(t, a, "(Root at: #a) at: 1 put: 5. (Root at: #c) increment: 7. Object subclass: #P slots: 'x'")
	sees(a, "5", "7", "true")
	sees(b, "0", "0", "false")
	commits(t, w, a, 3)
	sees(b, "0", "0", "false")
	says(t, b, "Root at: #q ifAbsent: [0]", "0")
	did := b.Did()
	if did.Base != 2 || !slices.Contains(did.Reads, theArray) {
		t.Error("Did", did)
	}
	clashes(t, w, b, 15)
	sees(b, "0", "0", "false")
	b.Abort()
	sees(b, "5", "7", "true")
	sees(a, "5", "7", "true")
}
