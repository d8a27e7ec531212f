package reach_test

import (
	"math"
	"slices"
	"testing"

	"lapidary/api"
	"lapidary/class"
	"lapidary/reach"
	"lapidary/view"
)

// P18.1 to P18.4: nil views.
func TestNil(t *testing.T) {
	v := with(t, array())
	var none *view.View
	if l := reach.Closure(nil, oops(1, 15)); len(l) != 0 {
		t.Error("Closure", l)
	}
	for _, x := range []api.Val{{}, integer(3), ref(15), ref(-1), {K: 99}} {
		if s := reach.Text(nil, x); s != "" {
			t.Error("Text", s)
		}
		if l := reach.Shown(nil, x); len(l) != 0 {
			t.Error("Shown", l)
		}
		if reach.Same(nil, x, nil, x) || reach.Same(v, x, nil, x) || reach.Same(nil, x, v, x) {
			t.Error("Same", x)
		}
	}
	for _, free := range [][]int64{nil, oops(5), oops(5, 4), oops(-1)} {
		if l, err := reach.Plan(none, nil, free); len(l) != 0 || err != api.ErrNil {
			t.Error("Plan", l, err)
		}
	}
}

// P18.1: roots that are no objects, none, and ones that come twice.
func TestClosureRoots(t *testing.T) {
	v := view.New(laid(t, map[int64]api.Obj{5: slots(5), 9: slots(5, integer(7)), 3: text(9, "a")}))
	closes(t, v, nil)
	closes(t, v, oops(0, -1, 4, missing, firstNew, math.MaxInt64, math.MinInt64))
	closes(t, v, oops(5), 5)
	closes(t, v, oops(9), 5, 9)
	closes(t, v, oops(9, 4, 9, 5, 9), 5, 9)
	closes(t, v, oops(3, 4), 3, 5, 9)
	closes(t, nil, oops(1))
	closes(t, &view.View{}, oops(1, 5))
}

// P18.1: what is named, by a class or a slot, and so on; objects that name one another and themselves, and what there is not.
func TestClosureWays(t *testing.T) {
	v := view.New(laid(t, map[int64]api.Obj{
		20: slots(30, integer(25), ref(22), api.Val{}, ref(21)),
		21: slots(21, ref(21), ref(20), ref(21)),
		22: slots(missing, ref(missing), ref(23)),
		23: slots(22, ref(23)),
		25: slots(20),
		30: slots(31),
		31: slots(31),
		40: slots(25),
	}))
	closes(t, v, oops(20), 20, 21, 22, 23, 30, 31)
	closes(t, v, oops(21), 20, 21, 22, 23, 30, 31)
	closes(t, v, oops(22), 22, 23)
	closes(t, v, oops(23), 22, 23)
	closes(t, v, oops(30), 30, 31)
	closes(t, v, oops(25, 40), 20, 21, 22, 23, 25, 30, 31, 40)
}

// P18.1: what was put and made is seen as it is in the view; what a class names is reached, too.
func TestClosureView(t *testing.T) {
	x := ground(t, map[int64]api.Obj{things: array(ref(things + 1)), things + 1: text(class.String, "x")})
	v := view.New(x)
	fresh := made(t, v, array())
	put(t, v, fresh, array(ref(fresh)))
	put(t, v, things, array(ref(fresh)))
	l := reach.Closure(v, oops(things))
	for _, oop := range oops(1, 2, 8, 9, 10, 16, 21, 30, 41, 42, things, fresh) { // of 10 its methods, their Symbols and Strings, their classes
		if !slices.Contains(l, oop) {
			t.Errorf("%d is not reached: %v", oop, l)
		}
	}
	for _, oop := range oops(class.Root, things+1) {
		if slices.Contains(l, oop) {
			t.Errorf("%d is reached", oop)
		}
	}
	if !slices.IsSorted(l) || len(slices.Compact(slices.Clone(l))) != len(l) {
		t.Error("Closure does not rise", l)
	}
	if l := reach.Closure(view.New(x), oops(things)); !slices.Contains(l, things+1) || slices.Contains(l, fresh) {
		t.Error("in another view", l)
	}
	if x.Forget(1) != api.OK || len(reach.Closure(v, oops(things))) == 0 {
		t.Error("Forget of the view's own commit")
	}
}

// P18.2: what is no object, or none that is there, shows nothing.
func TestShownNone(t *testing.T) {
	v := with(t, array())
	for _, x := range []api.Val{{}, {N: things}, {K: api.True, N: things}, integer(things), {K: api.Block, N: things}, {K: -1, N: things}, {K: 6, N: things}, ref(missing), ref(0), ref(-1), ref(firstNew), ref(math.MaxInt64), ref(math.MinInt64)} {
		shows(t, v, x)
	}
	shows(t, nil, ref(1))
}

// P18.2: what is reached by slots, and the class of each, without what that one names.
func TestShown(t *testing.T) {
	v := with(t,
		array(ref(things+1), ref(missing), ref(things), ref(things+1), integer(7)),
		slots(class.Dictionary, ref(things+2), ref(things+3)),
		text(class.Symbol, "a"),
		text(class.String, "b"),
		array(ref(class.Array)),
		array(ref(class.Object), ref(things+3)),
		slots(missing, ref(things+3)),
	)
	shows(t, v, ref(things+3), class.String, things+3)
	shows(t, v, ref(things+1), class.String, class.Symbol, class.Dictionary, things+1, things+2, things+3)
	shows(t, v, ref(things), class.String, class.Symbol, class.Array, class.Dictionary, things, things+1, things+2, things+3)
	shows(t, v, ref(things+6), class.String, things+3, things+6)
	// a class is reached by a slot: its class is shown, what it names is not
	shows(t, v, ref(things+4), class.Class, class.Array, things+4)
	shows(t, v, ref(things+5), class.Object, class.Class, class.String, class.Array, things+3, things+5)
	shows(t, v, ref(class.Array), class.Class, class.Array)
	shows(t, v, ref(class.Class), class.Class)
	shows(t, v, ref(class.Root), class.Dictionary, class.Root)
}

// P18.2: slots of Strings and the like are gone through; those of an object whose class is only looked at are not.
func TestShownOdd(t *testing.T) {
	v := view.New(laid(t, map[int64]api.Obj{
		20: slots(class.String, ref(21)),
		21: slots(22),
		22: slots(23, ref(24)), // no class, but the class of 21
		23: slots(24),
		24: slots(24),
		25: array(ref(21), ref(22)),
		26: array(ref(22), ref(21)),
		27: slots(class.Class, ref(20)),
		28: slots(28, ref(28)),
	}))
	shows(t, v, ref(20), 20, 21, 22)
	shows(t, v, ref(21), 21, 22)
	shows(t, v, ref(22), 22, 23, 24)
	shows(t, v, ref(25), 21, 22, 23, 24, 25)
	shows(t, v, ref(26), 21, 22, 23, 24, 26)
	shows(t, v, ref(27), 27)
	shows(t, v, ref(28), 28)
}

// chain is a world of objects of which each names the next one.
func chain(t testing.TB, many int64) *view.View {
	t.Helper()
	objects := map[int64]api.Obj{10: text(class.Class, "Array")}
	for i := range many {
		objects[17+i] = array(ref(min(18+i, 16+many)))
	}
	return view.New(laid(t, objects))
}

// P7: a chain of as many objects as there may be, and of as many new ones behind them.
func TestLongChain(t *testing.T) {
	const many = api.MaxOops - 16
	v, w := chain(t, many), chain(t, many)
	for _, one := range []*view.View{v, w} {
		for i := range int64(api.MaxOops) {
			made(t, one, array(ref(min(firstNew+i+1, 2*api.MaxOops))))
		}
		put(t, one, 17+many-1, array(ref(firstNew)))
	}
	if l := reach.Closure(v, oops(17)); len(l) != many+api.MaxOops+1 {
		t.Error("Closure has", len(l))
	}
	if l := reach.Shown(v, ref(17)); len(l) != many+api.MaxOops+1 {
		t.Error("Shown has", len(l))
	}
	alike(t, v, ref(17), w, ref(17), true)
	put(t, w, 2*api.MaxOops, array(ref(17)))
	alike(t, v, ref(17), w, ref(17), false)
	refuses(t, v, nil, oops(1, 2, 3, 4, 5, 6, 7, 8, 9, 11), api.ErrFull)
}
