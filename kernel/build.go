package kernel

import (
	"cmp"
	"slices"

	"lapidary/api"
	"lapidary/code"
	"lapidary/value"
)

// The oops that some of the objects need for their classes, and what else stands where.
const (
	classClass  = 2
	stringClass = 8
	symbolClass = 9
	arrayClass  = 10
	dictionary  = 12
	root        = 15
	noNames     = 16 // of slots, for all classes
	methodsOf   = 20 // and the class's oop: its methods
	firstText   = 41 // of the methods' selectors and sources
)

// Build is the first commit: all that is there at first.
func Build() (value.Record, api.Errno) {
	r := value.Record{Commit: 1}
	put := func(oop int64, o api.Obj) {
		r.Changes = append(r.Changes, value.Change{Oop: oop, Obj: o})
	}
	next := int64(firstText)
	text := func(class int64, s string) api.Val {
		put(next, api.Obj{Class: class, Bytes: []byte(s)})
		next++
		return ref(next - 1)
	}
	put(root, api.Obj{Class: dictionary})
	put(noNames, api.Obj{Class: stringClass})
	for i := range classes {
		c := int64(i) + 1
		put(c, classObject(c))
		slots, err := methodSlots(c, text)
		if err != api.OK {
			return value.Record{}, err
		}
		put(methodsOf+c, api.Obj{Class: arrayClass, Slots: slots})
	}
	slices.SortFunc(r.Changes, func(a, b value.Change) int { return cmp.Compare(a.Oop, b.Oop) })
	return r, api.OK
}

func classObject(c int64) api.Obj {
	var above api.Val
	if super := Super(c); super != 0 {
		above = ref(super)
	}
	return api.Obj{
		Class: classClass,
		Slots: []api.Val{above, ref(noNames), ref(methodsOf + c)},
		Bytes: []byte(Name(c)),
	}
}

// methodSlots are a selector and a source by turns; text makes an object of each.
func methodSlots(c int64, text func(class int64, s string) api.Val) ([]api.Val, api.Errno) {
	var out []api.Val
	for _, source := range Sources(c) {
		steps, _, err := code.Method(source, nil)
		if err != api.OK {
			return nil, err
		}
		out = append(out, text(symbolClass, steps.Sel), text(stringClass, source))
	}
	return out, api.OK
}

func ref(oop int64) api.Val {
	return api.Val{K: api.Ref, N: oop}
}
