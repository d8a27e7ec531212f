package scope

import (
	"slices"

	"lapidary/tree"
)

// walk goes through a tree. Its methods answer false where a name can not be, and leave that place as the fault.
type walk struct {
	slots []string
	uses  []Use
	fault int
}

func (w *walk) unit(n tree.Node, outer *unit) bool {
	u := &unit{Node: n, outer: outer}
	if !u.sound() {
		return w.fail(u.At)
	}
	return w.parts(u, u.Kids, false)
}

func (w *walk) fail(at int) bool {
	w.fault = at
	return false
}

// parts goes through parts within a unit, the first of which may be a receiver.
func (w *walk) parts(u *unit, parts []tree.Node, sent bool) bool {
	for i, n := range parts {
		if !w.part(u, n, sent && i == 0) {
			return false
		}
	}
	return true
}

func (w *walk) part(u *unit, n tree.Node, receiver bool) bool {
	switch n.Kind {
	case tree.Var:
		return w.read(u, n, receiver)
	case tree.Set:
		return w.write(u, n) && w.parts(u, n.Kids, false)
	case tree.Block:
		return w.unit(n, u)
	}
	return w.parts(u, n.Kids, n.Kind == tree.Send || n.Kind == tree.Casc)
}

func (w *walk) read(u *unit, n tree.Node, receiver bool) bool {
	x, known := w.named(u, n)
	if !known || x.Kind == Super && !receiver {
		return w.fail(n.At)
	}
	w.uses = append(w.uses, x)
	return true
}

func (w *walk) write(u *unit, n tree.Node) bool {
	x, known := w.named(u, n)
	if !known || x.Kind != Slot && (x.Kind != Temp || u.argument(x)) {
		return w.fail(n.At)
	}
	x.Write = true
	w.uses = append(w.uses, x)
	return true
}

// named tells what the name of a Var or a Set within a unit is.
func (w *walk) named(u *unit, n tree.Node) (Use, bool) {
	x, known := fixed(n.Text)
	if !known {
		x, known = u.temp(n.Text)
	}
	if !known {
		x, known = w.outside(n.Text)
	}
	x.At, x.Name = n.At, n.Text
	return x, known
}

// outside tells what a name is that none of the units has.
func (w *walk) outside(name string) (Use, bool) {
	if i := slices.Index(w.slots, name); i >= 0 {
		return Use{Kind: Slot, Index: i}, true
	}
	return Use{Kind: Global}, name != "" && 'A' <= name[0] && name[0] <= 'Z'
}
