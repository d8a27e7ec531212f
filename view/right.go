package view

import (
	"slices"

	"lapidary/api"
	"lapidary/value"
)

// Right tells whether a value can be in a view.
func Right(v api.Val) bool {
	if v.K == api.Ref {
		return rightOop(v.N)
	}
	return value.Right(v)
}

// RightObj tells whether an object can be in a view.
func RightObj(o api.Obj) bool {
	if !rightOop(o.Class) || len(o.Slots) > api.MaxSlots || len(o.Bytes) > api.MaxBytes {
		return false
	}
	return !slices.ContainsFunc(o.Slots, func(v api.Val) bool { return !Right(v) })
}

// rightOop: new objects have oops too, as many as those of the store.
func rightOop(n int64) bool {
	return n >= 1 && n <= 2*api.MaxOops
}

// fits tells why an object can not be put or made.
func fits(o api.Obj) api.Errno {
	if slices.ContainsFunc(o.Slots, func(v api.Val) bool { return v.K == api.Block }) {
		return api.ErrKeep
	}
	if !RightObj(o) {
		return api.ErrArg
	}
	return api.OK
}
