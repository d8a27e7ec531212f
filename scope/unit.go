package scope

import (
	"slices"

	"lapidary/tree"
)

// unit is a unit that is gone through, and the one that it stands in (nil, if there is none).
type unit struct {
	tree.Node
	outer *unit
}

// sound tells whether a unit's names can be.
func (u *unit) sound() bool {
	for i, name := range u.Names {
		if _, is := fixed(name); is || slices.Contains(u.Names[:i], name) {
			return false
		}
	}
	return true
}

// temp finds the innermost unit that has a name.
func (u *unit) temp(name string) (Use, bool) {
	depth := 0
	for v := u; v != nil; v = v.outer {
		if i := slices.Index(v.Names, name); i >= 0 {
			return Use{Kind: Temp, Depth: depth, Index: i}, true
		}
		depth++
	}
	return Use{}, false
}

// argument tells whether a Temp is an argument of the unit that has it.
func (u *unit) argument(x Use) bool {
	v := u
	for range x.Depth {
		v = v.outer
	}
	return x.Index < v.N
}

// fixed tells what the names are that nobody else can have.
func fixed(name string) (Use, bool) {
	switch name {
	case "self":
		return Use{Kind: Self}, true
	case "super":
		return Use{Kind: Super}, true
	case "nil":
		return Use{Kind: Const, Index: 0}, true
	case "false":
		return Use{Kind: Const, Index: 1}, true
	case "true":
		return Use{Kind: Const, Index: 2}, true
	}
	return Use{}, false
}
