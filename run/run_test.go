package run_test

import (
	"math"
	"slices"
	"strings"
	"testing"

	"lapidary/api"
	"lapidary/class"
	"lapidary/code"
	"lapidary/run"
	"lapidary/table"
	"lapidary/view"
)

// P15.1: no view; sources that are none, with the place, and nothing is changed.
func TestStartRefuses(t *testing.T) {
	v := world(t, nil)
	for _, source := range []string{"3", "", "a ]", strings.Repeat(" ", 5000)} {
		if r, at, err := run.Start(nil, source); r != nil || at != 0 || err != api.ErrNil {
			t.Errorf("Start of no view, %.9q: %v %d %v", source, r, at, err)
		}
	}
	cases := []struct {
		source string
		at     int
		err    api.Errno
	}{
		{"a ]", 2, api.ErrSyntax},
		{"3 $", 2, api.ErrSyntax},
		{"'abc", 0, api.ErrSyntax},
		{"3 +", 3, api.ErrSyntax},
		{"^3. 4", 4, api.ErrSyntax},
		{"a := 3", 0, api.ErrName},
		{"3 + a", 4, api.ErrName},
		{"| a a | 3", 0, api.ErrName},
		{"[:a | a := 3]", 6, api.ErrName},
		{"^super", 1, api.ErrName},
		{"self := 3", 0, api.ErrName},
		{"Root := 3", 0, api.ErrName},
		{strings.Repeat("(", 41) + "3" + strings.Repeat(")", 41), 40, api.ErrSize},
		{strings.Repeat(" ", api.MaxText+1), 0, api.ErrSize},
		{"\xff", 0, api.ErrSyntax},
	}
	for _, c := range cases {
		r, at, err := run.Start(v, c.source)
		if r != nil || at != c.at || err != c.err {
			t.Errorf("Start(%.20q) = %v %d %v, want %d %v", c.source, r, at, err, c.at, c.err)
		}
		if _, at, err := code.Compile(c.source, nil); at != c.at || err != c.err {
			t.Errorf("Compile(%.20q) = %d %v", c.source, at, err)
		}
	}
	sameView(t, v, world(t, nil))
}

// P15.1: what a run tells ahead of its first Go, while it goes on, and when it is over.
func TestRunTells(t *testing.T) {
	v := world(t, nil)
	r := start(t, v, "3 + 4")
	tells := func(over bool, x api.Val, steps int64) {
		t.Helper()
		y, failure := r.Value()
		if r.Over() != over || y != x || failure != "" || r.Steps() != steps || len(r.Ops()) != 0 {
			t.Errorf("over %v, value %v %q, steps %d, want %v %v %d", r.Over(), y, failure, r.Steps(), over, x, steps)
		}
	}
	tells(false, api.Val{}, 0)
	if r.Go(0) {
		t.Error("it is over without a step")
	}
	tells(false, api.Val{}, 0)
	for range 3 {
		if !r.Go(1) {
			t.Error("it is not over")
		}
		tells(true, integer(7), 1)
	}
	r = start(t, v, "nil foo")
	if !r.Go(1) || !r.Over() || r.Steps() != 1 {
		t.Error("an error does not end it")
	}
	if x, failure := r.Value(); x != (api.Val{}) || failure != "does not understand foo" {
		t.Error("Value", x, failure)
	}
}

// P15.1: of nil all is nothing.
func TestRunOfNil(t *testing.T) {
	var r *run.Run
	x, failure := r.Value()
	if r.Go(5) || r.Over() || x != (api.Val{}) || failure != "" || r.Steps() != 0 || len(r.Ops()) != 0 {
		t.Error("a nil run tells something")
	}
}

// P15.1: how many steps there are: messages, and units that are run, but the source.
func TestSteps(t *testing.T) {
	for source, steps := range map[string]int64{
		"":                                 0,
		"3":                                0,
		"^3":                               0,
		"#(1 #(2) 'a')":                    0,
		"[3]":                              0,
		"3 + 4":                            1,
		"3 + 4 * 5":                        2,
		"3 foo":                            1,
		"3 foo: 4 + 5":                     2,
		"Zork foo":                         0,
		"[3] value":                        2,
		"[:a | a] value":                   1,
		"[[3] value] value":                4,
		"3 yourself":                       2,
		"3 > 4":                            3,
		"3 <= 4":                           5,
		"3 + 4; - 5; yourself":             4,
		"[false] whileTrue: [1]":           2,
		"[nil] whileTrue: [1]":             2,
		"3 timesRepeat: [1]":               23,
		"[1] ensure: [2]":                  3,
		"[1] onError: [2]":                 2,
		"[1 / 0] onError: [2]":             4,
		"[[1 / 0] ensure: [2]] onError: 3": 1,
		"[[1 / 0] ensure: []] onError: []": 7,
		"[^3] value. 4 + 5":                2,
		"[[^3] ensure: [1 + 1]] value. 4":  6,
	} {
		if r := over(t, world(t, nil), source); r.Steps() != steps {
			t.Errorf("%q has %d steps, want %d", source, r.Steps(), steps)
		}
	}
}

const endless = "[true] whileTrue: [1]"

// P15.1: n steps and no more, of n below 0 none, of n above 20000 just so many.
func TestGo(t *testing.T) {
	for _, c := range []struct {
		n    int
		want int64
	}{
		{math.MinInt, 0}, {-20001, 0}, {-1, 0}, {0, 0}, {1, 1}, {2, 2}, {19999, 19999}, {20000, 20000}, {20001, 20000}, {math.MaxInt, 20000},
	} {
		r := start(t, world(t, nil), endless)
		for i := range int64(2) {
			if r.Go(c.n) || r.Over() || r.Steps() != c.want*(i+1) {
				t.Errorf("Go(%d): %d steps, want %d", c.n, r.Steps(), c.want*(i+1))
			}
		}
		if x, failure := r.Value(); x != (api.Val{}) || failure != "" {
			t.Error("Value", x, failure)
		}
	}
}

// P15.1: what is no step is done up to the one that would come, and no more; to the end, if none comes.
func TestGoUpToAStep(t *testing.T) {
	for _, source := range []string{"", "3", "^3", "'a'. #(1 2 #b). [3]", "| a | a := 'x'. ^a", "Zork", "Root. Array. Zork"} {
		for _, n := range []int{0, -5} {
			r := start(t, world(t, nil), source)
			if !r.Go(n) || r.Steps() != 0 {
				t.Errorf("%q is not over without a step", source)
			}
		}
	}
	v := world(t, nil)
	r := start(t, v, "'a'. 'b'. 'c' size. 'd'. #(1 #e) size")
	for i, made := range []int{3, 6, 6} {
		if over := r.Go(min(i, 1)); over != (i == 2) || len(v.News()) != made {
			t.Errorf("behind %d steps: over %v, %d were made, want %d", i, over, len(v.News()), made)
		}
	}
	v = world(t, nil)
	start(t, v, "3 + 4").Go(0)
	if len(v.Reads()) != 0 {
		t.Error("a message was looked for ahead of its step:", v.Reads())
	}
}

// P15.1: a unit that would be too deep is told without a step, so that none is waited for.
func TestGoTooDeep(t *testing.T) {
	v := world(t, nil)
	do(t, v, "Object subclass: #P slots: ''", "P compile: 'foo ^self foo'")
	whole := over(t, v.Copy(), "P new foo")
	if _, failure := whole.Value(); failure != "too deep" {
		t.Fatal(failure)
	}
	if whole.Steps() != 1+80*2+1 {
		t.Error(whole.Steps(), "steps")
	}
	r := start(t, v.Copy(), "P new foo")
	if !r.Go(int(whole.Steps())) {
		t.Error("it waits for a step that does not come")
	}
}

// parts are ways to part a run into goes.
var parts = [][]int{{1}, {2}, {3}, {7}, {1, 0, -3, 2}, {50, 1, 1}, {20000}, {math.MaxInt}}

// parted are sources of many kinds: what is read, made, written, and what errs and returns on the way.
var parted = []string{
	"3 + 4",
	"25 factorial asString",
	"28 factorial",
	"| n | n := 0. 1 to: 5 do: [:i | n := n + i]. n",
	"#(3 1 2) inject: 0 into: [:s :y | s + y]",
	"(#(3 1 2) collect: [:x | x asString , 'a']) at: 2",
	"Object subclass: #P slots: 'x'. Root at: #p put: 3. P compile: 'foo ^x'. (Root at: #P) new foo",
	"| x | x := 1. [[x := 2. 1 / 0] ensure: [x := x * 10]] onError: [:e | x := e , 'a']. x",
	"[[^3] ensure: [Root at: 1 put: 2]] ensure: [Root at: 3 put: 4]",
	"[[[nil foo] ensure: [1 / 0]] ensure: [2]] onError: [:e | e error: e , '!']",
	"A increment: 3; decrement: 5. B add: 4; add: nil; remove: 4. A value",
	"A increment: 3. B remove: 77",
	"C size. D at: 1 put: 'x'. D. E at: #a put: 1; at: 'a' put: 2; removeKey: #a",
	"[:a :b | a := b]",
	"[[self error: 'a'] onError: [^7]] ensure: [A increment: 1]",
}

func partedWorld(t testing.TB) *view.View {
	return rooted(t, slots(class.Counter, integer(5)), slots(class.Bag, integer(4)), text(class.String, "abc"), slots(class.Array, integer(1)), slots(class.Dictionary))
}

// P15.3: however it is parted, the same comes of it: the value, the steps, the ops, and all that the view tells.
func TestParted(t *testing.T) {
	for _, source := range parted {
		if _, _, err := code.Compile(source, nil); err != api.OK {
			continue
		}
		v := partedWorld(t)
		whole := over(t, v, source)
		for _, part := range parts {
			w := partedWorld(t)
			r := start(t, w, source)
			for i := 0; !r.Over(); i++ {
				old := r.Steps()
				n := part[i%len(part)]
				if !r.Go(n) && r.Steps() != old+int64(max(0, n)) {
					t.Fatalf("%q: Go(%d) did %d steps", source, n, r.Steps()-old)
				}
			}
			if r.Steps() != whole.Steps() || result(w, r) != result(v, whole) || !slices.Equal(r.Ops(), whole.Ops()) {
				t.Errorf("%q parted by %v: %s in %d steps, %v, want %s in %d, %v", source, part, result(w, r), r.Steps(), r.Ops(), result(v, whole), whole.Steps(), whole.Ops())
			}
			sameView(t, w, v)
		}
	}
}

// P15.4: what is over changes nothing any more, and tells the same.
func TestOver(t *testing.T) {
	for _, source := range parted {
		if _, _, err := code.Compile(source, nil); err != api.OK {
			continue
		}
		v := partedWorld(t)
		r := over(t, v, source)
		w, was, steps, ops := v.Copy(), result(v, r), r.Steps(), r.Ops()
		for _, n := range []int{1, 0, -1, 20000, math.MaxInt} {
			if !r.Go(n) || !r.Over() || result(v, r) != was || r.Steps() != steps || !slices.Equal(r.Ops(), ops) {
				t.Errorf("%q goes on", source)
			}
		}
		sameView(t, v, w)
	}
}

// P15.1: ops that are told are in memory of their own, in their order; those of runs that are not over too.
func TestOps(t *testing.T) {
	v := partedWorld(t)
	r := over(t, v, "A increment: 3. B add: 9. A decrement: 5. B remove: 4. B add: nil; add: true; add: false")
	want := []run.Op{
		{Oop: thingsAt, Add: true, Value: integer(3)},
		{Oop: thingsAt + 1, Add: true, Value: integer(9)},
		{Oop: thingsAt, Add: true, Value: integer(-5)},
		{Oop: thingsAt + 1, Value: integer(4)},
		{Oop: thingsAt + 1, Add: true},
		{Oop: thingsAt + 1, Add: true, Value: api.Val{K: api.True}},
		{Oop: thingsAt + 1, Add: true, Value: api.Val{K: api.False}},
	}
	ops := r.Ops()
	if !slices.Equal(ops, want) {
		t.Errorf("ops %v, want %v", ops, want)
	}
	ops[0].Oop = 7
	_ = append(ops[:1], ops[2:]...)
	if !slices.Equal(r.Ops(), want) {
		t.Error("what is written into an answer is told later:", r.Ops())
	}
	r = start(t, partedWorld(t), "A increment: 3; increment: 4; increment: 5")
	for i := range 3 {
		r.Go(1)
		if len(r.Ops()) != i+1 {
			t.Errorf("behind %d steps: %v", i+1, r.Ops())
		}
	}
	r = over(t, partedWorld(t), "A increment: 3. nil foo. A increment: 4")
	if len(r.Ops()) != 1 {
		t.Error("ops of a run that erred:", r.Ops())
	}
}

// P15.1: runs in one view see what the others did; each has its own steps and ops.
func TestTwoRuns(t *testing.T) {
	v := partedWorld(t)
	a, b := start(t, v, "A increment: 1. A increment: 2. A value"), start(t, v, "A increment: 10. A value")
	a.Go(1)
	b.Go(2)
	a.Go(9)
	if result(v, b) != "16" || result(v, a) != "18" || len(a.Ops()) != 2 || len(b.Ops()) != 1 || a.Steps() != 3 {
		t.Error(result(v, a), a.Ops(), result(v, b), b.Ops())
	}
}

// P15.1: views without objects, and without a table.
func TestEmptyViews(t *testing.T) {
	for _, v := range []*view.View{new(view.View), view.New(table.New())} {
		wants(t, v,
			"", "nil",
			"3", "3",
			"3 + 4", "! does not understand +",
			"[3] value", "! does not understand value",
			"nil foo", "! does not understand foo",
			"super foo", "! does not understand foo",
			"Root", "none",
			"Array", "none",
			"Array new", "! does not understand new",
			"Zork", "! no such name",
		)
	}
}
