package reach

import (
	"cmp"
	"slices"

	"lapidary/api"
	"lapidary/value"
	"lapidary/view"
)

// Plan is what a commit of a view changes: what was written, but what is skipped, and the new objects that are reached from there, at free oops.
func Plan(v *view.View, skip, free []int64) ([]value.Change, api.Errno) {
	if v == nil {
		return nil, api.ErrNil
	}
	if !fits(v, free) {
		return nil, api.ErrArg
	}
	p := plan{v: v, free: free, changes: written(v, skip)}
	for i := 0; i < len(p.changes); i++ { // behind each there may be more of them
		o, err := p.settled(p.changes[i].Obj)
		if err != api.OK {
			return nil, err
		}
		p.changes[i].Obj = o
	}
	slices.SortFunc(p.changes, func(c, d value.Change) int { return cmp.Compare(c.Oop, d.Oop) })
	return p.changes, api.OK
}

// fits tells whether oops that are to be free rise, and are nobody's.
func fits(v *view.View, free []int64) bool {
	last := int64(0)
	for _, oop := range free {
		if oop <= last || oop > api.MaxOops {
			return false
		}
		if _, err := v.Peek(oop); err == api.OK {
			return false
		}
		last = oop
	}
	return true
}

func written(v *view.View, skip []int64) []value.Change {
	var skipped marks[int64]
	for _, oop := range skip {
		skipped.mark(oop)
	}
	return slices.DeleteFunc(v.Changed(), func(c value.Change) bool { return skipped.of(c.Oop) > 0 })
}

// plan is what is changed so far.
type plan struct {
	v       *view.View
	free    []int64
	came    marks[int64] // new objects: each takes the one of free at its number
	changes []value.Change
}

// settled is an object that names new ones by the oops that they take.
func (p *plan) settled(o api.Obj) (api.Obj, api.Errno) {
	class, err := p.taken(o.Class)
	if err != api.OK {
		return api.Obj{}, err
	}
	o.Class = class
	for i, x := range o.Slots {
		if x.K != api.Ref {
			continue
		}
		oop, err := p.taken(x.N)
		if err != api.OK {
			return api.Obj{}, err
		}
		o.Slots[i].N = oop
	}
	return o, api.OK
}

// taken is the oop by which an object is named then: a new one that comes for the first time takes the next one of free, and is a change more.
func (p *plan) taken(oop int64) (int64, api.Errno) {
	if oop <= api.MaxOops {
		return oop, api.OK
	}
	n, first := p.came.mark(oop)
	if !first {
		return p.free[n-1], api.OK
	}
	o, err := p.v.Peek(oop)
	if err != api.OK {
		return 0, api.ErrArg
	}
	if n > len(p.free) {
		return 0, api.ErrFull
	}
	p.changes = append(p.changes, value.Change{Oop: p.free[n-1], Obj: o})
	return p.free[n-1], api.OK
}
