package reach_test

import (
	"math"
	"testing"

	"lapidary/api"
	"lapidary/class"
	"lapidary/view"
)

// P18.3: values that are no Refs: their kinds and their Ns.
func TestSameValues(t *testing.T) {
	v, w := with(t), view.New(laid(t, nil))
	list := []api.Val{{}, {N: 1}, {K: api.False}, {K: api.True}, {K: api.True, N: -1}, integer(0), integer(1), integer(math.MinInt64), integer(math.MaxInt64), {K: api.Block}, {K: api.Block, N: 1}, {K: -1}, {K: 6}, {K: 6, N: math.MaxInt64}, {K: math.MaxInt}}
	for i, x := range list {
		for j, y := range list {
			alike(t, v, x, w, y, i == j)
		}
		alike(t, v, x, w, ref(x.N), false)
	}
}

// P18.3: Refs to nothing are alike, whatever they name; and none is like one to an object.
func TestSameNothing(t *testing.T) {
	v := with(t, array(ref(missing), ref(missing)), array(ref(missing+1), ref(missing+2)), array(ref(missing), ref(things)))
	w := view.New(laid(t, nil))
	none := oops(0, -1, missing, missing+1, firstNew, math.MaxInt64, math.MinInt64)
	for _, n := range none {
		for _, m := range none {
			alike(t, v, ref(n), w, ref(m), true)
			alike(t, v, ref(n), v, ref(m), true)
		}
		alike(t, v, ref(n), v, ref(things), false)
		alike(t, v, ref(n), v, ref(15), false)
		alike(t, w, ref(n), v, ref(15), false)
	}
	alike(t, w, ref(3), w, ref(5), true) // there is neither
	alike(t, v, ref(things), v, ref(things+1), true)
	alike(t, v, ref(things), v, ref(things+2), false)
}

// pairOf is two worlds, with one object each at different oops.
func pairOf(t *testing.T, o, p api.Obj, want bool) {
	t.Helper()
	alike(t, with(t, o), ref(things), with(t, array(), p), ref(things+1), want)
	v := with(t, o, p)
	alike(t, v, ref(things), v, ref(things+1), want)
}

// P18.3: bytes, how many slots, what they are, and classes.
func TestSameObjects(t *testing.T) {
	pairOf(t, array(), array(), true)
	pairOf(t, text(class.String, "a"), text(class.String, "a"), true)
	pairOf(t, text(class.String, "a"), text(class.String, "b"), false)
	pairOf(t, text(class.String, "a"), text(class.String, "a "), false)
	pairOf(t, text(class.String, "a"), text(class.Symbol, "a"), false)
	pairOf(t, slots(class.Object), slots(class.Array), false)
	pairOf(t, array(integer(1), integer(2)), array(integer(1), integer(2)), true)
	pairOf(t, array(integer(1), integer(2)), array(integer(1), integer(3)), false)
	pairOf(t, array(integer(1), integer(2)), array(integer(2), integer(1)), false)
	pairOf(t, array(integer(1)), array(integer(1), api.Val{}), false)
	pairOf(t, array(), array(api.Val{}), false)
	pairOf(t, array(api.Val{}), array(integer(0)), false)
	pairOf(t, array(ref(10)), array(ref(10)), true)
	pairOf(t, array(ref(10)), array(ref(12)), false)
	pairOf(t, array(ref(10)), array(integer(10)), false)
	pairOf(t, array(ref(missing)), array(ref(missing+1)), true)
	pairOf(t, array(ref(missing)), array(ref(10)), false)
	pairOf(t, array(ref(41)), array(ref(43)), false) // Symbols isNil, yourself
	pairOf(t, array(ref(41)), array(ref(41)), true)
	pairOf(t, slots(missing), slots(missing+1), true)
	pairOf(t, slots(missing), slots(class.Array), false)
	pairOf(t, slots(class.Root), slots(class.Root), true)
}

// P18.3: an oop up to 16 goes with itself alone, though it is like another one; from 17 on oops play no part.
func TestSameFixed(t *testing.T) {
	v := view.New(laid(t, map[int64]api.Obj{1: slots(1), 15: slots(1), 16: slots(1), 17: slots(1), 18: slots(1), 20: slots(1, ref(16)), 21: slots(1, ref(17)), 22: slots(16), 23: slots(17), 24: slots(18)}))
	for _, a := range oops(1, 15, 16, 17, 18) {
		for _, b := range oops(1, 15, 16, 17, 18) {
			alike(t, v, ref(a), v, ref(b), a == b || a > 16 && b > 16)
		}
	}
	alike(t, v, ref(20), v, ref(21), false)
	alike(t, v, ref(22), v, ref(23), false)
	alike(t, v, ref(23), v, ref(24), true)
	alike(t, v, ref(20), v, ref(20), true)
}

// P18.3: classes that are not there: of those up to 16, each is of its own kind, as the Text tells them apart.
func TestSameNoClass(t *testing.T) {
	v := view.New(laid(t, map[int64]api.Obj{20: text(8, "a"), 21: text(9, "a"), 22: text(30, "a"), 23: text(31, "a"), 24: text(8, "a"), 30: slots(30)}))
	alike(t, v, ref(20), v, ref(21), false)
	alike(t, v, ref(20), v, ref(24), true)
	alike(t, v, ref(20), v, ref(23), false)
	alike(t, v, ref(22), v, ref(23), false)
	w := view.New(laid(t, map[int64]api.Obj{20: text(17, "a"), 21: text(18, "a")}))
	alike(t, w, ref(20), w, ref(21), true)
}

// P18.3: objects go together one to one: neither one with two, nor two with one.
func TestSameTogether(t *testing.T) {
	one, other := text(class.String, "s"), text(class.String, "s")
	v := with(t, array(ref(things+2), ref(things+2)), array(ref(things+2), ref(things+3)), one, other, array(ref(things+3), ref(things+2)), array(ref(things+3), ref(things+3)))
	alike(t, v, ref(things), v, ref(things+1), false)
	alike(t, v, ref(things+1), v, ref(things+4), true)
	alike(t, v, ref(things), v, ref(things+5), true)
	alike(t, v, ref(things+4), v, ref(things+5), false)
	// a class that stands in a slot, too
	c, d := text(class.Class, "P"), text(class.Class, "P")
	v = with(t, c, d, slots(things, ref(things)), slots(things+1, ref(things+1)), slots(things, ref(things+1)))
	alike(t, v, ref(things+2), v, ref(things+3), true)
	alike(t, v, ref(things+2), v, ref(things+4), false)
	alike(t, v, ref(things+3), v, ref(things+4), false)
	// with nothing else that is reached
	bare := view.New(laid(t, map[int64]api.Obj{20: slots(missing, ref(22), ref(22)), 21: slots(missing, ref(22), ref(23)), 22: slots(missing), 23: slots(missing)}))
	alike(t, bare, ref(20), bare, ref(21), false)
	alike(t, bare, ref(21), bare, ref(21), true)
}

// P18.3: objects that name one another and themselves: rings are alike only if they are as long.
func TestSameRings(t *testing.T) {
	v := with(t, array(ref(things)), array(ref(things+2)), array(ref(things+1)), array(ref(things+4)), array(ref(things+3)))
	alike(t, v, ref(things), v, ref(things+1), false)
	alike(t, v, ref(things+1), v, ref(things+2), true)
	alike(t, v, ref(things+1), v, ref(things+3), true)
	alike(t, v, ref(things+1), v, ref(things+4), true)
	fresh := made(t, v, array())
	put(t, v, fresh, array(ref(fresh)))
	alike(t, v, ref(things), v, ref(fresh), true)
}

// P18.3: what lies deep, in what a class names too, is held against the other one's.
func TestSameDeep(t *testing.T) {
	objects := func(name, source string) *view.View {
		return with(t, array(ref(things+1)), slots(things+2, integer(1)),
			api.Obj{Class: class.Class, Slots: []api.Val{ref(1), ref(things + 3), ref(things + 4)}, Bytes: []byte(name)},
			text(class.String, "x"), array(ref(things+5), ref(things+6)), text(class.Symbol, "x"), text(class.String, source))
	}
	v := objects("P", "x ^x")
	alike(t, v, ref(things), objects("P", "x ^x"), ref(things), true)
	alike(t, v, ref(things), objects("Q", "x ^x"), ref(things), false)
	alike(t, v, ref(things), objects("P", "x ^1"), ref(things), false)
	w := objects("P", "x ^x")
	put(t, w, 42, text(class.String, "isNil ^true")) // of the class Object
	alike(t, v, ref(things), w, ref(things), false)
	alike(t, v, ref(class.Root), w, ref(class.Root), false)
	put(t, w, 42, text(class.String, "isNil ^false"))
	alike(t, v, ref(things), w, ref(things), true)
	alike(t, v, ref(class.Root), w, ref(class.Root), true)
	alike(t, v, ref(class.Root), w, ref(class.Bag), false)
}
