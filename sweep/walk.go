package sweep

import (
	"slices"

	"lapidary/api"
	"lapidary/table"
	"lapidary/value"
)

// always is the last of the objects that are always there.
const always = 16

// walk is all objects behind a table's last commit, and those of them that came: they are reached.
type walk struct {
	all     []int64           // the oops, rising
	objects map[int64]api.Obj // by oop
	order   []int64           // those that came, by their new numbers
	numbers map[int64]int64   // of those that came their new numbers, by oop
	next    int64             // the next new number
}

// through goes from those that are always there to all that is reached.
func through(t *table.Table) *walk {
	w := &walk{objects: map[int64]api.Obj{}, numbers: map[int64]int64{}, next: always + 1}
	for _, c := range t.All().Changes {
		w.all = append(w.all, c.Oop)
		w.objects[c.Oop] = c.Obj
	}
	w.begin()
	for at := 0; at < len(w.order); at++ {
		w.come(w.names(w.order[at])...)
	}
	return w
}

// begin lets those come that are always there. They are the first of all; their room is cut behind them, so that those that come later do not stand in the others' places.
func (w *walk) begin() {
	n, _ := slices.BinarySearch(w.all, always+1)
	w.order = w.all[:n:n]
	for _, oop := range w.order {
		w.numbers[oop] = oop
	}
}

// come puts those of some objects that are there, and come for the first time, behind the others.
func (w *walk) come(oops ...int64) {
	for _, oop := range oops {
		if w.missing(oop) || w.came(oop) {
			continue
		}
		w.order = append(w.order, oop)
		w.numbers[oop] = w.next
		w.next++
	}
}

// came tells whether an object is reached, as far as it is known.
func (w *walk) came(oop int64) bool {
	return w.numbers[oop] > 0
}

// missing tells whether there is no such object.
func (w *walk) missing(oop int64) bool {
	_, there := w.objects[oop]
	return !there
}

// names are the objects that one names, there or not.
func (w *walk) names(oop int64) []int64 {
	return value.Refs(w.objects[oop])
}

// reached are those that came, rising.
func (w *walk) reached() []int64 {
	return slices.Sorted(slices.Values(w.order))
}

// renamed is an object with new numbers for what it names.
func (w *walk) renamed(oop int64) api.Obj {
	o := value.Copy(w.objects[oop])
	o.Class = w.number(o.Class)
	for i, v := range o.Slots {
		if v.K == api.Ref {
			o.Slots[i].N = w.number(v.N)
		}
	}
	return o
}

// number is an object's new number; what there is not keeps its name.
func (w *walk) number(oop int64) int64 {
	if w.came(oop) {
		return w.numbers[oop]
	}
	return oop
}
