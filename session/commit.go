package session

import (
	"cmp"
	"slices"

	"lapidary/api"
	"lapidary/rc"
	"lapidary/reach"
	"lapidary/valid"
	"lapidary/value"
)

// attempt is a commit that is under way, and what it changes as far as that is known.
type attempt struct {
	by       *Session
	counters []value.Change // Counters and Bags, as they are now, with what was done to them
	objects  []value.Change // all else that was written, and the new ones that are reached from there
}

// deeds is how much a commit changes of each kind.
type deeds struct {
	counters, objects int
}

// Commit makes what was done there for all, and begins anew. Each stage may refuse; only the last one changes something.
func (s *Session) Commit() api.Reply {
	if err := s.may(false); err != api.OK {
		return api.Reply{Err: err}
	}
	a := &attempt{by: s}
	var r api.Reply
	for _, stage := range []func() api.Reply{a.check, a.replay, a.plan, a.keep} {
		if r = stage(); r.Err != api.OK {
			return r
		}
	}
	s.renew()
	return r
}

// check asks whether somebody else has written what was read or written.
func (a *attempt) check() api.Reply {
	oop, err := a.by.world.history.Check(a.by.Did())
	return api.Reply{Err: err, N: oop}
}

// replay does the Ops to Counters and Bags as they are now.
func (a *attempt) replay() api.Reply {
	changes, oop, err := rc.All(a.by.world.store.Table(), a.by.ops)
	a.counters = changes
	return api.Reply{Err: err, N: oop}
}

// plan finds places for new objects.
func (a *attempt) plan() api.Reply {
	v := a.by.view
	free := a.by.world.store.Table().Free(len(v.News()))
	changes, err := reach.Plan(v, rc.Touched(a.by.ops), free)
	a.objects = changes
	return api.Reply{Err: err}
}

// keep gives all of it to the store, if there is something.
func (a *attempt) keep() api.Reply {
	w := a.by.world
	if a.did() == (deeds{}) {
		return api.Reply{N: w.store.Last()}
	}
	r := value.Record{Commit: w.store.Last() + 1, Changes: a.changes()}
	if err := w.store.Commit(r); err != api.OK {
		return api.Reply{Err: err}
	}
	t := valid.Txn{Base: a.by.base, Commit: r.Commit}
	for _, c := range r.Changes {
		t.Writes = append(t.Writes, c.Oop)
	}
	w.history.Add(t)
	return api.Reply{N: r.Commit}
}

func (a *attempt) did() deeds {
	return deeds{len(a.counters), len(a.objects)}
}

// changes are those of both kinds, rising.
func (a *attempt) changes() []value.Change {
	all := slices.Concat(a.counters, a.objects)
	slices.SortFunc(all, func(c, d value.Change) int { return cmp.Compare(c.Oop, d.Oop) })
	return all
}
