package class

import (
	"slices"
	"strings"

	"lapidary/api"
	"lapidary/code"
	"lapidary/lex"
	"lapidary/view"
)

// most is how many slots' names a class has at most, with those of the classes above it.
const most = 30

// Make makes a class below another one, and answers its oop.
func Make(v *view.View, super int64, name string, slots []string) (int64, api.Errno) {
	if !Is(v, super) || fixed(super) {
		return 0, api.ErrKind
	}
	if tooLong(name, slots) {
		return 0, api.ErrSize
	}
	if !rightName(name) || slices.ContainsFunc(slots, wrongSlot) {
		return 0, api.ErrName
	}
	above := Names(v, super)
	if twice(slots, above) {
		return 0, api.ErrName
	}
	if len(slots)+len(above) > most {
		return 0, api.ErrSize
	}
	return makeClass(v, super, name, slots)
}

func tooLong(name string, slots []string) bool {
	return len(slots) > most || len(name) > api.MaxBytes || len(joined(slots)) > api.MaxBytes
}

func joined(slots []string) string {
	return strings.Join(slots, " ")
}

func rightName(name string) bool {
	return lex.PlainName(name) && large(name)
}

func wrongSlot(name string) bool {
	switch name {
	case "self", "super", "nil", "false", "true":
		return true
	}
	return !lex.PlainName(name) || large(name)
}

// large tells whether a name has a large first letter.
func large(name string) bool {
	return name[0] >= 'A' && name[0] <= 'Z'
}

// twice tells whether one of the slots stands there twice, or above.
func twice(slots, above []string) bool {
	for i, name := range slots {
		if slices.Contains(slots[:i], name) || slices.Contains(above, name) {
			return true
		}
	}
	return false
}

// makeClass makes the objects one behind the other, up to the first one that errs, as the chapter has it: what was made ahead of that one stays, unlike in store.
func makeClass(v *view.View, super int64, name string, slots []string) (int64, api.Errno) {
	names, err := v.Make(text(String, joined(slots)))
	if err != api.OK {
		return 0, err
	}
	methods, err := v.Make(api.Obj{Class: Array})
	if err != api.OK {
		return 0, err
	}
	o := text(Class, name)
	o.Slots = []api.Val{ref(super), ref(names), ref(methods)}
	return v.Make(o)
}

func text(c int64, s string) api.Obj {
	return api.Obj{Class: c, Bytes: []byte(s)}
}

func ref(oop int64) api.Val {
	return api.Val{K: api.Ref, N: oop}
}

// Define makes a method of a class, and answers its selector; or the place where the source is none.
func Define(v *view.View, c int64, source string) (string, int, api.Errno) {
	e, is := read(v, c)
	if !is {
		return "", 0, api.ErrKind
	}
	steps, at, err := code.Method(source, Names(v, c))
	if err != api.OK {
		return "", at, err
	}
	if len(source) > api.MaxBytes { // a selector is no longer than its source
		return "", 0, api.ErrSize
	}
	if err := store(v, e.methods, steps.Sel, source); err != api.OK {
		return "", 0, err
	}
	return steps.Sel, 0, api.OK
}

// store lets a source stand behind its selector among methods. The view may refuse any part of that, so all of it is tried in a copy first: what is refused leaves nothing.
func store(v *view.View, methods int64, selector, source string) api.Errno {
	o, missing := v.Get(methods)
	at, _, found := asking(v, selector)(o.Slots)
	if !found {
		if len(o.Slots)+2 > api.MaxSlots {
			return api.ErrFull
		}
		at = len(o.Slots) + 1
		o.Slots = append(o.Slots, api.Val{}, api.Val{})
	}
	lay := func(v *view.View) api.Errno {
		if !found {
			symbol, err := v.Make(text(Symbol, selector))
			if err != api.OK {
				return err
			}
			o.Slots[at-1] = ref(symbol)
		}
		oop, err := v.Make(text(String, source))
		if err != api.OK {
			return err
		}
		if missing != api.OK { // Put would not tell, where one of the new objects has just that oop
			return missing
		}
		o.Slots[at] = ref(oop)
		return v.Put(methods, o)
	}
	if err := lay(v.Copy()); err != api.OK {
		return err
	}
	return lay(v)
}

// New makes an object of a class, and answers its oop.
func New(v *view.View, c int64, n int) (int64, api.Errno) {
	if !Is(v, c) {
		return 0, api.ErrKind
	}
	if n < 0 {
		return 0, api.ErrArg
	}
	o, err := fresh(v, c, n)
	if err != api.OK {
		return 0, err
	}
	return v.Make(o)
}

// fresh is what an object of a class is at first.
func fresh(v *view.View, c int64, n int) (api.Obj, api.Errno) {
	o := api.Obj{Class: c}
	switch {
	case c == Array && n > api.MaxSlots, c == String && n > api.MaxBytes:
		return api.Obj{}, api.ErrSize
	case c == Array:
		o.Slots = make([]api.Val, n)
	case c == String:
		o.Bytes = make([]byte, n)
	case c == Dictionary, c == Bag:
	case c == Counter:
		o.Slots = []api.Val{{K: api.Int}}
	case fixed(c):
		return api.Obj{}, api.ErrKind
	case n != 0:
		return api.Obj{}, api.ErrArg
	default:
		o.Slots = make([]api.Val, len(Names(v, c)))
	}
	return o, api.OK
}
