package run

import (
	"cmp"
	"slices"

	"lapidary/api"
	"lapidary/class"
)

// ofCounter does a native of RcCounter.
func (r *Run) ofCounter(selector string, self api.Val, args []api.Val) (api.Val, string) {
	switch selector {
	case "increment:":
		return r.increment(self, args[0], 1)
	case "decrement:":
		return r.increment(self, args[0], -1)
	}
	o, text := r.receiver(self, class.Counter)
	if text != "" {
		return api.Val{}, text
	}
	if !counts(o) {
		return api.Val{}, wrongKind
	}
	return o.Slots[0], ""
}

// counts tells whether a Counter has a number.
func counts(o api.Obj) bool {
	return len(o.Slots) > 0 && o.Slots[0].K == api.Int
}

// increment adds so many times by to a Counter.
func (r *Run) increment(self, by api.Val, times int64) (api.Val, string) {
	o, text := r.unread(self, class.Counter)
	if text != "" {
		return api.Val{}, text
	}
	if !counts(o) || by.K != api.Int {
		return api.Val{}, wrongKind
	}
	by.N *= times
	o.Slots[0].N += by.N
	if !isSmall(o.Slots[0].N) {
		r.view.Read(self.N)
		return api.Val{}, tooLarge
	}
	return r.did(self, o, Op{self.N, true, by})
}

// did puts a Counter or a Bag as it is then, and keeps what was done to it, if others may do something to it too.
func (r *Run) did(self api.Val, o api.Obj, op Op) (api.Val, string) {
	x, text := r.put(self.N, o, self)
	if text == "" && self.N <= api.MaxOops {
		r.ops = append(r.ops, op)
	}
	return x, text
}

// ofBag does a native of RcBag.
func (r *Run) ofBag(selector string, self api.Val, args []api.Val) (api.Val, string) {
	switch selector {
	case "add:":
		return r.add(self, args[0])
	case "remove:":
		return r.remove(self, args[0])
	}
	o, text := r.receiver(self, class.Bag)
	if text != "" {
		return api.Val{}, text
	}
	if selector == "size" {
		return count(len(o.Slots)), ""
	}
	times := 0
	for _, x := range o.Slots {
		if x == args[0] {
			times++
		}
	}
	return count(times), ""
}

func (r *Run) add(self, x api.Val) (api.Val, string) {
	o, text := r.unread(self, class.Bag)
	if text != "" {
		return api.Val{}, text
	}
	if x.K > api.Int {
		return api.Val{}, wrongKind
	}
	if len(o.Slots) >= api.MaxSlots {
		r.view.Read(self.N)
		return api.Val{}, noRoom
	}
	at := slices.IndexFunc(o.Slots, func(y api.Val) bool { return order(y, x) > 0 })
	if at < 0 {
		at = len(o.Slots)
	}
	o.Slots = slices.Insert(o.Slots, at, x)
	return r.did(self, o, Op{self.N, true, x})
}

// order is the order of a Bag's values.
func order(x, y api.Val) int {
	return cmp.Or(cmp.Compare(x.K, y.K), cmp.Compare(x.N, y.N))
}

func (r *Run) remove(self, x api.Val) (api.Val, string) {
	o, text := r.unread(self, class.Bag)
	if text != "" {
		return api.Val{}, text
	}
	at := slices.Index(o.Slots, x)
	if at < 0 {
		r.view.Read(self.N)
		return api.Val{}, notThere
	}
	o.Slots = slices.Delete(o.Slots, at, at+1)
	return r.did(self, o, Op{self.N, false, x})
}
