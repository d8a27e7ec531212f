package reach_test

import (
	"math"
	"testing"

	"lapidary/api"
	"lapidary/class"
	"lapidary/reach"
	"lapidary/value"
	"lapidary/view"
)

// P18.4: what was written, rising; what was only read, or made and not reached, is no change.
func TestPlanWritten(t *testing.T) {
	v := with(t, array(), array(), array())
	plans(t, v, nil, nil)
	plans(t, v, oops(1, 2, -1, math.MaxInt64), oops(17, api.MaxOops))
	v.Read(things)
	made(t, v, array(ref(things)))
	plans(t, v, nil, nil)
	put(t, v, things+2, array(integer(1)))
	put(t, v, things, text(class.String, "x"))
	put(t, v, class.Root, slots(class.Dictionary, ref(missing), ref(things)))
	root, first, last := change(15, slots(class.Dictionary, ref(missing), ref(things))), change(things, text(class.String, "x")), change(things+2, array(integer(1)))
	plans(t, v, nil, nil, root, first, last)
	plans(t, v, oops(things), oops(17, 18), root, last)
	plans(t, v, oops(things+2, things+2, things+1, things, -5, 0, math.MinInt64, math.MaxInt64), nil, root)
	plans(t, v, oops(things, things+2, 15), nil)
}

// P18.4: new objects take free oops in the order in which they come: a class ahead of slots, slots in order, and what new ones name behind all that came ahead.
func TestPlanOrder(t *testing.T) {
	v := with(t, array(), array())
	n := func(i int64) int64 { return api.MaxOops + i }
	made(t, v, array(ref(n(5)), ref(n(1)), ref(things))) // 1
	made(t, v, array(ref(n(6))))                         // 2
	made(t, v, text(class.Class, "P"))                   // 3
	made(t, v, text(class.String, "four"))               // 4
	made(t, v, array(ref(n(2)), ref(n(1))))              // 5
	made(t, v, text(class.String, "six"))                // 6
	made(t, v, array(ref(n(1))))                         // 7, which nobody reaches
	put(t, v, things, slots(n(3), ref(n(2)), ref(n(1)), ref(n(2)), integer(n(7)), api.Val{K: api.True}))
	put(t, v, things+1, array(ref(n(4)), ref(n(3)), ref(things)))
	// they come: 3 2 1 of the first one, 4 of the other one, 6 of 2, 5 of 1
	plans(t, v, nil, oops(20, 500, 501, 502, 2000, 4096),
		change(20, text(class.Class, "P")),
		change(500, array(ref(2000))),
		change(501, array(ref(4096), ref(501), ref(things))),
		change(502, text(class.String, "four")),
		change(things, slots(20, ref(500), ref(501), ref(500), integer(n(7)), api.Val{K: api.True})),
		change(things+1, array(ref(502), ref(20), ref(things))),
		change(2000, text(class.String, "six")),
		change(4096, array(ref(500), ref(501))))
	// without the first one: 4 3
	plans(t, v, oops(things), oops(3000, 3500, 3501), change(things+1, array(ref(3000), ref(3500), ref(things))), change(3000, text(class.String, "four")), change(3500, text(class.Class, "P")))
	refuses(t, v, nil, oops(20, 500, 501, 502, 2000), api.ErrFull)
	// the view is as it was
	if o, _ := v.Peek(things); o.Class != n(3) || o.Slots[0] != ref(n(2)) {
		t.Error("Plan has changed", o)
	}
}

// P18.4: a new object that was put again is as it is now; one that is skipped is reached still.
func TestPlanNew(t *testing.T) {
	v := with(t, array())
	fresh := made(t, v, array())
	put(t, v, fresh, array(ref(fresh)))
	put(t, v, things, array(ref(fresh)))
	want := []value.Change{change(17, array(ref(17))), change(things, array(ref(17)))}
	plans(t, v, nil, oops(17), want...)
	plans(t, v, nil, oops(17, 18, 4000), want...)
	plans(t, v, oops(fresh), oops(17), want...)
	plans(t, v, oops(things), nil)
	// of a class of itself
	own := made(t, v, array())
	put(t, v, own, slots(own))
	put(t, v, things, array(ref(own)))
	plans(t, v, nil, oops(17), change(17, slots(17)), change(things, array(ref(17))))
}

// P18.4: free does not rise, or has what can not be, though nobody asks for it.
func TestPlanFree(t *testing.T) {
	v := with(t, array())
	for _, free := range [][]int64{{0}, {-1}, {api.MaxOops + 1}, {math.MaxInt64}, {math.MinInt64}, {18, 17}, {17, 17}, {17, 18, 18}, {17, 19, 18, 20}, {things}, {17, things}, {1}, {15}, {17, api.MaxOops + 1}, {0, 17}} {
		refuses(t, v, nil, free, api.ErrArg)
	}
	for _, free := range [][]int64{nil, {}, {17}, {17, 18}, {17, api.MaxOops}, {api.MaxOops}, {17, things - 1, things + 1}} {
		plans(t, v, nil, free)
	}
	empty := view.New(laid(t, nil))
	plans(t, empty, nil, oops(1, 2, api.MaxOops))
	plans(t, &view.View{}, nil, oops(1))
}

// P18.4: which error comes first: what is wrong with free ahead of all; else that of the new object that comes first.
func TestPlanErrors(t *testing.T) {
	v := with(t, array(), array())
	gone := int64(2 * api.MaxOops) // a new one that was never made
	a, b := made(t, v, array()), made(t, v, array())
	put(t, v, things, array(ref(a), ref(gone), ref(b)))
	refuses(t, v, nil, nil, api.ErrFull)
	refuses(t, v, nil, oops(17), api.ErrArg)
	refuses(t, v, nil, oops(17, 18, 19), api.ErrArg)
	refuses(t, v, nil, oops(18, 17), api.ErrArg)
	put(t, v, things, array(ref(gone)))
	refuses(t, v, nil, nil, api.ErrArg) // of one that comes not being there is named first
	refuses(t, v, nil, oops(17), api.ErrArg)
	put(t, v, things, array(ref(a), ref(b), ref(gone)))
	refuses(t, v, nil, oops(17), api.ErrFull)
	refuses(t, v, nil, oops(things), api.ErrArg)
	refuses(t, v, nil, oops(17, 18), api.ErrArg)
	// a class that is not there
	put(t, v, things, slots(gone, ref(a)))
	refuses(t, v, nil, nil, api.ErrArg)
	refuses(t, v, nil, oops(17, 18), api.ErrArg)
	// within a new one, behind what others name
	put(t, v, a, array(ref(gone)))
	put(t, v, things, array(ref(a), ref(b)))
	refuses(t, v, nil, oops(17), api.ErrFull)
	refuses(t, v, nil, oops(17, 18), api.ErrArg)
	put(t, v, things, array(ref(a)))
	put(t, v, things+1, array(ref(b)))
	refuses(t, v, nil, oops(17), api.ErrFull)
	refuses(t, v, oops(things+1), oops(17), api.ErrArg)
	refuses(t, v, oops(things), nil, api.ErrFull)
	plans(t, v, oops(things), oops(17), change(17, array()), change(things+1, array(ref(17))))
	plans(t, v, oops(things, things+1), nil)
	// what names nothing, and is not new, is as it is
	put(t, v, things, slots(missing, ref(missing), ref(17)))
	put(t, v, things+1, array())
	plans(t, v, nil, oops(17), change(things, slots(missing, ref(missing), ref(17))), change(things+1, array()))
}

// P18.4: the greatest oop that is not new, and the least one that is.
func TestPlanLastOld(t *testing.T) {
	v := world(t, map[int64]api.Obj{things: array(), api.MaxOops: array(), api.MaxOops - 1: text(class.Class, "P")})
	fresh := made(t, v, array(ref(api.MaxOops)))
	put(t, v, api.MaxOops, slots(api.MaxOops-1, ref(api.MaxOops), ref(fresh)))
	put(t, v, things, array(ref(api.MaxOops)))
	plans(t, v, nil, oops(17, 18),
		change(17, array(ref(api.MaxOops))),
		change(things, array(ref(api.MaxOops))),
		change(api.MaxOops, slots(api.MaxOops-1, ref(api.MaxOops), ref(17))))
}

// P18.4: as many new objects as there are free oops, and one more.
func TestPlanFull(t *testing.T) {
	const always = 16 // objects that are there, so that nobody takes their oops
	objects := map[int64]api.Obj{}
	for oop := range int64(always) {
		objects[oop+1] = array()
	}
	x := laid(t, objects)
	v := view.New(x)
	for i := range int64(api.MaxOops) {
		made(t, v, array(ref(min(firstNew+i+1, 2*api.MaxOops))))
	}
	put(t, v, 10, array(ref(firstNew+always)))
	free := x.Free(api.MaxOops)
	l, err := reach.Plan(v, nil, free)
	if err != api.OK || len(l) != api.MaxOops-always+1 {
		t.Fatal("Plan", len(l), err)
	}
	if err := x.Apply(value.Record{Commit: 2, Changes: l}); err != api.OK {
		t.Error("Apply", err)
	}
	alike(t, v, ref(10), view.New(x), ref(10), true)
	put(t, v, 10, array(ref(firstNew+always-1)))
	refuses(t, v, nil, free, api.ErrFull)
}
