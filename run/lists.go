package run

import (
	"bytes"
	"slices"

	"lapidary/api"
	"lapidary/class"
	"lapidary/view"
)

// ofArray does a native of Array.
func (r *Run) ofArray(selector string, self api.Val, args []api.Val) (api.Val, string) {
	o, text := r.receiver(self, class.Array)
	if text != "" {
		return api.Val{}, text
	}
	if selector == "size" {
		return count(len(o.Slots)), ""
	}
	i, text := place(args[0], len(o.Slots))
	if text != "" {
		return api.Val{}, text
	}
	if selector == "at:" {
		return o.Slots[i], ""
	}
	o.Slots[i] = args[1]
	return r.put(self.N, o, args[1])
}

// ofDictionary does a native of Dictionary.
func (r *Run) ofDictionary(selector string, self api.Val, args []api.Val) (api.Val, string) {
	if selector == "at:put:" {
		return r.atPut(self, args[0], args[1])
	}
	o, text := r.receiver(self, class.Dictionary)
	if text != "" {
		return api.Val{}, text
	}
	if selector == "size" {
		return count(len(o.Slots) / 2), ""
	}
	i := r.keyed(o, args[0])
	if selector == "includesKey:" {
		return truth(i >= 0), ""
	}
	if i < 0 {
		return api.Val{}, noKey
	}
	x := o.Slots[i]
	if selector == "at:" {
		return x, ""
	}
	o.Slots = slices.Delete(o.Slots, i-1, i+1)
	return r.put(self.N, o, x)
}

// atPut lets a value stand under a key in a Dictionary.
func (r *Run) atPut(self, key, x api.Val) (api.Val, string) {
	o, text := r.receiver(self, class.Dictionary)
	if text != "" {
		return api.Val{}, text
	}
	i := r.keyed(o, key)
	if i < 0 {
		if len(o.Slots)+2 > api.MaxSlots {
			return api.Val{}, noRoom
		}
		i = len(o.Slots) + 1
		o.Slots = append(o.Slots, key, api.Val{})
	}
	o.Slots[i] = x
	return r.put(self.N, o, x)
}

// keyed is the slot whose value stands under a key; -1, if there is none.
func (r *Run) keyed(o api.Obj, key api.Val) int {
	for i := 1; i < len(o.Slots); i += 2 {
		if Equal(r.view, o.Slots[i-1], key) {
			return i
		}
	}
	return -1
}

// Equal tells whether two values are the same as keys.
func Equal(v *view.View, a, b api.Val) bool {
	if a == b {
		return true
	}
	if a.K != api.Ref || b.K != api.Ref {
		return false
	}
	x, _ := v.Get(a.N) // what is not there has the class 0
	y, _ := v.Get(b.N)
	if x.Class != y.Class || x.Class < class.Integer || x.Class > class.Symbol {
		return false
	}
	return bytes.Equal(x.Bytes, y.Bytes)
}
