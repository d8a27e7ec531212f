package table_test

import (
	"maps"
	"math/rand"
	"slices"
	"testing"

	"lapidary/api"
	"lapidary/table"
	"lapidary/value"
)

// model is a table as its chapter says it: all records, gone through anew for each answer.
type model struct {
	first   int64
	records []value.Record
}

func (m *model) last() int64 {
	if len(m.records) == 0 {
		return 0
	}
	return m.records[len(m.records)-1].Commit
}

func (m *model) behind(commit int64) map[int64]api.Obj {
	out := map[int64]api.Obj{}
	for _, r := range m.records {
		for _, change := range r.Changes {
			switch {
			case r.Commit > commit:
			case change.Gone:
				delete(out, change.Oop)
			default:
				out[change.Oop] = change.Obj
			}
		}
	}
	return out
}

func (m *model) changed(oop int64) int64 {
	out := int64(0)
	for _, r := range m.records {
		for _, change := range r.Changes {
			if change.Oop == oop {
				out = r.Commit
			}
		}
	}
	return out
}

func (m *model) free(n int) []int64 {
	taken := map[int64]api.Obj{}
	for commit := m.first; commit <= m.last(); commit++ {
		maps.Copy(taken, m.behind(commit))
	}
	var out []int64
	for oop := int64(1); oop <= api.MaxOops && len(out) < n; oop++ {
		if _, is := taken[oop]; !is {
			out = append(out, oop)
		}
	}
	return out
}

// pair is a table and what it must be.
type pair struct {
	table *table.Table
	model model
}

const busy = 9 // the oops that are worked with are from 1 on, and fewer

// agree asks all there is to ask.
func (p pair) agree(t *testing.T) {
	t.Helper()
	x, m := p.table, &p.model
	ends(t, x, m.first, m.last())
	for commit := int64(-1); commit <= m.last()+1; commit++ {
		behind := m.behind(commit)
		asked := commit >= m.first && commit <= m.last()
		if !asked {
			behind = nil
		}
		list(t, "Oops", x.Oops(commit), slices.Sorted(maps.Keys(behind))...)
		for oop := int64(0); oop <= busy; oop++ {
			switch o, there := behind[oop]; {
			case there:
				is(t, x, commit, oop, o)
			case asked:
				isNot(t, x, commit, oop, api.ErrNone)
			default:
				isNot(t, x, commit, oop, api.ErrRange)
			}
		}
	}
	for oop := int64(0); oop <= busy; oop++ {
		if x.Changed(oop) != m.changed(oop) {
			t.Errorf("Changed(%d) = %d, want %d", oop, x.Changed(oop), m.changed(oop))
		}
	}
	list(t, "Free", x.Free(busy), m.free(busy)...)
	if r := x.All(); !sameRecord(r, m.all()) {
		t.Errorf("All %v, want %v", r, m.all())
	}
}

func (m *model) all() value.Record {
	r := value.Record{Commit: m.last()}
	behind := m.behind(m.last())
	for _, oop := range slices.Sorted(maps.Keys(behind)) {
		r.Changes = append(r.Changes, put(oop, behind[oop]))
	}
	return r
}

// record is some changes of a commit; of one in eight the commit is no new one, and one in eight can not be.
func record(r *rand.Rand, last int64) value.Record {
	out := value.Record{Commit: last + 1 + r.Int63n(2)}
	if r.Intn(8) == 0 {
		out.Commit = last - r.Int63n(3)
	}
	for oop := int64(1); oop < busy; oop++ {
		switch r.Intn(7) {
		case 0:
			out.Changes = append(out.Changes, gone(oop))
		case 1, 2:
			out.Changes = append(out.Changes, put(oop, api.Obj{
				Class: 1 + r.Int63n(api.MaxOops),
				Slots: []api.Val{{K: api.Int, N: r.Int63n(100)}},
				Bytes: []byte{byte(r.Intn(256))},
			}))
		}
	}
	if r.Intn(8) == 0 {
		out.Changes = append(out.Changes, put(busy, api.Obj{}))
	}
	return out
}

func (p *pair) apply(t *testing.T, r *rand.Rand) {
	t.Helper()
	change := record(r, p.model.last())
	want := api.OK
	switch {
	case !value.RightRecord(change):
		want = api.ErrArg
	case change.Commit <= p.model.last():
		want = api.ErrState
	default:
		p.model.records = append(slices.Clone(p.model.records), change)
	}
	if err := p.table.Apply(change); err != want {
		t.Errorf("Apply(%v) = %v, want %v", change, err, want)
	}
}

func (p *pair) forget(t *testing.T, r *rand.Rand) {
	t.Helper()
	commit := p.model.first - 1 + r.Int63n(p.model.last()-p.model.first+3)
	want := api.ErrRange
	if commit >= p.model.first && commit <= p.model.last() {
		want, p.model.first = api.OK, commit
	}
	if err := p.table.Forget(commit); err != want {
		t.Errorf("Forget(%d) = %v, want %v", commit, err, want)
	}
}

// P11.1 to P11.4: tables that go on at random, and copies of them, are as the model is; so nothing behind a commit that may be asked is ever another.
func TestModel(t *testing.T) {
	for seed := range int64(150) {
		r := rand.New(rand.NewSource(seed))
		pairs := []*pair{{table: table.New()}}
		for range 30 {
			p := pairs[r.Intn(len(pairs))]
			switch k := r.Intn(10); {
			case k == 0 && len(pairs) < 4:
				pairs = append(pairs, &pair{p.table.Copy(), p.model})
			case k == 1:
				p.forget(t, r)
			default:
				p.apply(t, r)
			}
			for _, p := range pairs {
				p.agree(t)
			}
			if t.Failed() {
				t.Fatal("with the seed", seed)
			}
		}
	}
}

// P11.5: a new table with All has the same behind Last, and goes on the same from there.
func TestAllAnew(t *testing.T) {
	for seed := range int64(200) {
		r := rand.New(rand.NewSource(seed))
		p := &pair{table: table.New()}
		for range 1 + r.Intn(20) {
			p.apply(t, r)
			if r.Intn(6) == 0 {
				p.forget(t, r)
			}
		}
		if p.table.Last() == 0 {
			continue
		}
		q := &pair{table.New(), model{records: []value.Record{p.model.all()}}}
		if err := q.table.Apply(p.table.All()); err != api.OK {
			t.Fatal("Apply of All", err)
		}
		last := p.table.Last()
		list(t, "Oops", q.table.Oops(last), p.table.Oops(last)...)
		for _, oop := range p.table.Oops(last) {
			o, _ := p.table.At(last, oop)
			is(t, q.table, last, oop, o)
		}
		for range 5 {
			q.apply(t, r)
		}
		for _, one := range []*pair{p, q} {
			one.agree(t)
		}
		if t.Failed() {
			t.Fatal("with the seed", seed)
		}
	}
}
