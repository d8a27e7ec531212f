package reach_test

import (
	"maps"
	"math/rand"
	"slices"
	"testing"

	"lapidary/api"
	"lapidary/class"
	"lapidary/reach"
	"lapidary/value"
	"lapidary/view"
)

// P18.5: values that are the Same have the same Text.
func TestSameText(t *testing.T) {
	found := 0
	for seed := range int64(2000) {
		r := rand.New(rand.NewSource(seed))
		_, v := grown(t, r)
		_, w := grown(t, r)
		for _, pair := range [][2]*view.View{{v, w}, {v, v}} {
			for a := int64(1); a < 25; a++ {
				for b := int64(1); b < 25; b++ {
					if !reach.Same(pair[0], ref(a), pair[1], ref(b)) {
						continue
					}
					if a != b {
						found++
					}
					told(t, pair[1], ref(b), reach.Text(pair[0], ref(a)))
				}
			}
		}
		if t.Failed() {
			t.Fatal("with the seed", seed)
		}
	}
	if found < 500 {
		t.Error("only so many are the Same:", found)
	}
}

// P18.5: a Text hangs on the objects that are Shown alone: all others may be anything else.
func TestTextOfShown(t *testing.T) {
	for seed := range int64(2000) {
		r := rand.New(rand.NewSource(seed))
		_, v := grown(t, r)
		for oop := range seen(v) {
			x, w := ref(oop), v.Copy()
			shown, s := reach.Shown(v, x), reach.Text(v, x)
			for other := range seen(v) {
				if !slices.Contains(shown, other) {
					put(t, w, other, someObj(r, 3))
				}
			}
			told(t, w, x, s)
			shows(t, w, x, shown...)
		}
		if t.Failed() {
			t.Fatal("with the seed", seed)
		}
	}
}

// allThere makes a view's objects name only what there is, as far as they were written or made; 1 is there for that.
func allThere(t testing.TB, v *view.View) {
	t.Helper()
	m := seen(v)
	there := func(oop int64) int64 {
		if _, is := m[oop]; is {
			return oop
		}
		return 1
	}
	for _, oop := range slices.Concat(v.Writes(), v.News()) {
		o := m[oop]
		o.Class = there(o.Class)
		for i, x := range o.Slots {
			if x.K == api.Ref {
				o.Slots[i].N = there(x.N)
			}
		}
		put(t, v, oop, o)
	}
}

// P18.6: what is planned, and applied, is the Same as it was in the view, from each object that was written; and its Text is.
func TestPlannedIsSame(t *testing.T) {
	more := 0
	for seed := range int64(3000) {
		r := rand.New(rand.NewSource(seed))
		all := objects{}
		for oop := int64(1); oop < 25; oop++ {
			if oop <= 16 || r.Intn(3) > 0 {
				all[oop] = someObj(r, 0)
			}
		}
		x := laid(t, all)
		v := view.New(x)
		for range 6 {
			made(t, v, someObj(r, 6))
		}
		for _, oop := range slices.Sorted(maps.Keys(seen(v))) {
			if r.Intn(3) == 0 {
				put(t, v, oop, someObj(r, 6))
			}
		}
		allThere(t, v)
		free := slices.DeleteFunc(x.Free(30), func(oop int64) bool { return oop < 25 }) // what was not written may name those below, though there are none
		changes, err := reach.Plan(v, nil, free)
		if err != api.OK {
			t.Fatal("Plan", err)
		}
		if err := x.Apply(value.Record{Commit: 2, Changes: changes}); err != api.OK {
			t.Fatal("Apply", err)
		}
		more += len(changes) - len(v.Writes())
		w := view.New(x)
		for _, oop := range v.Writes() {
			alike(t, v, ref(oop), w, ref(oop), true)
			told(t, w, ref(oop), reach.Text(v, ref(oop)))
		}
		if t.Failed() {
			t.Fatal("with the seed", seed)
		}
	}
	if more < 3000 {
		t.Error("only so many new objects were reached:", more)
	}
}

// P18.6: in a world with classes: a new class, its methods, and an object of it, reached from the root.
func TestPlannedClass(t *testing.T) {
	x := ground(t, nil)
	v := view.New(x)
	c, err := class.Make(v, class.Object, "P", []string{"x"})
	if err != api.OK {
		t.Fatal("Make", err)
	}
	if _, _, err := class.Define(v, c, "x ^x"); err != api.OK {
		t.Fatal("Define", err)
	}
	one, err := class.New(v, c, 0)
	if err != api.OK {
		t.Fatal("New", err)
	}
	key := made(t, v, text(class.Symbol, "p"))
	put(t, v, class.Root, slots(class.Dictionary, ref(key), ref(one)))
	free := x.Free(len(v.News()))
	changes, err := reach.Plan(v, nil, free)
	if err != api.OK || len(changes) != 8 { // the root, p, the object, P, its names, its methods: x and its source
		t.Fatal("Plan", changes, err)
	}
	if err := x.Apply(value.Record{Commit: 2, Changes: changes}); err != api.OK {
		t.Fatal("Apply", err)
	}
	w := view.New(x)
	alike(t, v, ref(class.Root), w, ref(class.Root), true)
	told(t, w, ref(class.Root), "1:Dictionary(#p 2:P(nil))")
	root, _ := w.Peek(class.Root)
	o, _ := w.Peek(root.Slots[1].N)
	if source, who, found := class.Find(w, o.Class, "x"); source != "x ^x" || who != o.Class || !found {
		t.Error("Find", source, who, found)
	}
}
