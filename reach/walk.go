package reach

import (
	"slices"

	"lapidary/api"
	"lapidary/class"
	"lapidary/value"
	"lapidary/view"
)

// place is where a walk goes: an object, and what of it is gone through.
type place interface {
	// stop is the place as a key.
	stop() stop
}

// stop tells places apart: an object may be looked at alone, and be gone through besides.
type stop struct {
	oop   int64
	alone bool
}

// through is an object of which all that it names is gone to.
type through int64

// inside is an object of which what its slots name is gone to, and its class is looked at.
type inside int64

// alone is an object of which nothing is gone to.
type alone int64

func (p through) stop() stop { return stop{oop: int64(p)} }
func (p inside) stop() stop  { return stop{oop: int64(p)} }
func (p alone) stop() stop   { return stop{oop: int64(p), alone: true} }

// walk goes from place to place, to each once.
type walk struct {
	v    *view.View
	came marks[stop]
	todo []place
}

// goTo puts a place behind the others, if it is a new one.
func (w *walk) goTo(p place) {
	if _, first := w.came.mark(p.stop()); first {
		w.todo = append(w.todo, p)
	}
}

// met goes to all places, and answers the objects that are there, rising.
func (w *walk) met() []int64 {
	var out []int64
	for len(w.todo) > 0 {
		p := w.todo[0]
		w.todo = w.todo[1:]
		if o, err := w.v.Peek(p.stop().oop); err == api.OK {
			out = append(out, p.stop().oop)
			w.next(p, o)
		}
	}
	slices.Sort(out)
	return slices.Compact(out)
}

// next is what comes behind a place, where an object stands.
func (w *walk) next(p place, o api.Obj) {
	switch p.(type) {
	case through:
		for _, oop := range value.Refs(o) {
			w.goTo(through(oop))
		}
	case inside:
		w.goTo(alone(o.Class))
		if o.Class == class.Class { // a class is told by its name alone
			return
		}
		for _, x := range o.Slots {
			if x.K == api.Ref {
				w.goTo(inside(x.N))
			}
		}
	}
}
