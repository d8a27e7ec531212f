package view_test

import (
	"maps"
	"math/rand"
	"slices"
	"testing"

	"lapidary/api"
	"lapidary/table"
	"lapidary/value"
	"lapidary/view"
)

// model is a view as its chapter says it: all objects that are seen, held whole.
type model struct {
	base          int64
	objects       map[int64]api.Obj
	reads, writes map[int64]int
	made          int64
}

func newModel(base int64, objects map[int64]api.Obj) model {
	return model{base, maps.Clone(objects), map[int64]int{}, map[int64]int{}, 0}
}

func (m *model) copy() model {
	return model{m.base, maps.Clone(m.objects), maps.Clone(m.reads), maps.Clone(m.writes), m.made}
}

// pair is a view and what it must be.
type pair struct {
	view  *view.View
	model model
}

const busy = 8 // the oops that are worked with are from 1 on, and fewer; so are the new ones

func (p *pair) agree(t *testing.T) {
	t.Helper()
	v, m := p.view, &p.model
	if v.Base() != m.base {
		t.Errorf("Base %d, want %d", v.Base(), m.base)
	}
	for i := range int64(busy + 1) {
		for _, oop := range []int64{i, api.MaxOops + i} {
			if o, there := m.objects[oop]; there {
				is(t, v, oop, o)
			} else {
				isNot(t, v, oop, api.ErrNone)
			}
		}
	}
	writes := slices.Sorted(maps.Keys(m.writes))
	did(t, v, slices.Sorted(maps.Keys(m.reads)), writes, m.made)
	var changes []value.Change
	for _, oop := range writes {
		changes = append(changes, value.Change{Oop: oop, Obj: m.objects[oop]})
	}
	changed(t, v, changes...)
}

// anyObject is some object, of one in six one that can not be put; with the error.
func anyObject(r *rand.Rand) (api.Obj, api.Errno) {
	switch r.Intn(12) {
	case 0:
		return withSlots(api.Val{K: api.Block}), api.ErrKeep
	case 1:
		return api.Obj{}, api.ErrArg
	}
	return api.Obj{
		Class: 1 + r.Int63n(lastNew),
		Slots: []api.Val{{K: api.Ref, N: 1 + r.Int63n(lastNew)}},
		Bytes: []byte{byte(r.Intn(256))},
	}, api.OK
}

func anyOop(r *rand.Rand) int64 {
	return r.Int63n(busy+1) + api.MaxOops*r.Int63n(2)
}

// step does something to a view, and to its model.
func (p *pair) step(t *testing.T, r *rand.Rand) {
	t.Helper()
	v, m := p.view, &p.model
	oop := anyOop(r)
	o, err := anyObject(r)
	_, there := m.objects[oop]
	switch r.Intn(5) {
	case 0:
		v.Read(oop)
		m.read(oop)
	case 1:
		v.Get(oop)
		m.read(oop)
	case 2:
		if m.made == busy {
			return
		}
		if err != api.OK {
			makes(t, v, o, 0, err)
			return
		}
		m.made++
		m.objects[api.MaxOops+m.made] = o
		makes(t, v, o, api.MaxOops+m.made, api.OK)
	default:
		if !there {
			err = api.ErrNone
		}
		put(t, v, oop, o, err)
		if err == api.OK {
			m.write(oop, o)
		}
	}
}

func (m *model) read(oop int64) {
	if oop >= 1 && oop <= api.MaxOops {
		m.reads[oop]++
	}
}

func (m *model) write(oop int64, o api.Obj) {
	m.objects[oop] = o
	if oop <= api.MaxOops {
		m.writes[oop]++
	}
}

// more applies one more commit to a table, and to the objects that it has.
func more(t *testing.T, r *rand.Rand, x *table.Table, objects map[int64]api.Obj) {
	t.Helper()
	record := value.Record{Commit: x.Last() + 1 + r.Int63n(3)}
	for oop := int64(1); oop < busy; oop++ {
		switch r.Intn(4) {
		case 0:
			delete(objects, oop)
			record.Changes = append(record.Changes, value.Change{Oop: oop, Gone: true})
		case 1:
			objects[oop] = of(record.Commit)
			record.Changes = append(record.Changes, value.Change{Oop: oop, Obj: of(record.Commit)})
		}
	}
	if err := x.Apply(record); err != api.OK {
		t.Fatal("Apply", err)
	}
}

// P12.1 to P12.5: views of one table that are worked with at random, while commits come, and copies of them: each is as its own model is.
func TestModel(t *testing.T) {
	for seed := range int64(150) {
		r := rand.New(rand.NewSource(seed))
		x, objects := table.New(), map[int64]api.Obj{}
		more(t, r, x, objects)
		pairs := []*pair{{view.New(x), newModel(x.Last(), objects)}}
		for range 60 {
			p := pairs[r.Intn(len(pairs))]
			switch k := r.Intn(20); {
			case k == 0:
				more(t, r, x, objects)
			case k == 1 && len(pairs) < 5:
				pairs = append(pairs, &pair{view.New(x), newModel(x.Last(), objects)})
			case k == 2 && len(pairs) < 5:
				pairs = append(pairs, &pair{p.view.Copy(), p.model.copy()})
			default:
				p.step(t, r)
			}
			for _, p := range pairs {
				p.agree(t)
			}
			if t.Failed() {
				t.Fatal("with the seed", seed)
			}
		}
	}
}
