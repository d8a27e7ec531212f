package reach

import (
	"bytes"

	"lapidary/api"
	"lapidary/view"
)

// fixed is the last oop that means the same in all views.
const fixed = 16

// Same tells whether two values, in two views, are alike in all that is reached.
func Same(v *view.View, x api.Val, w *view.View, y api.Val) bool {
	if v == nil || w == nil {
		return false
	}
	m := match{left: half{v: v}, right: half{v: w}}
	if !m.values(x, y) {
		return false
	}
	for len(m.todo) > 0 {
		p := m.todo[0]
		m.todo = m.todo[1:]
		a, _ := v.Peek(p.left) // both are there, or they were no pair
		b, _ := w.Peek(p.right)
		if !m.objects(a, b) {
			return false
		}
	}
	return true
}

// match pairs the objects of two views: two go together that got the same number, each in its own view.
type match struct {
	left, right half
	todo        []pair // whose insides are not compared yet
}

type half struct {
	v    *view.View
	came marks[int64]
}

type pair struct{ left, right int64 }

func (m *match) values(x, y api.Val) bool {
	if x.K != y.K {
		return false
	}
	if x.K != api.Ref {
		return x.N == y.N
	}
	return m.refs(x.N, y.N)
}

// refs tells whether two oops name nothing, or objects that go together.
func (m *match) refs(a, b int64) bool {
	n, k := m.left.came.of(a), m.right.came.of(b)
	if n > 0 || k > 0 {
		return n == k
	}
	_, noA := m.left.v.Peek(a)
	_, noB := m.right.v.Peek(b)
	if noA != api.OK || noB != api.OK {
		return noA == noB
	}
	if !mayGo(a, b) {
		return false
	}
	m.left.came.mark(a)
	m.right.came.mark(b)
	m.todo = append(m.todo, pair{a, b})
	return true
}

// mayGo tells whether two oops may go together, as far as one is always there.
func mayGo(a, b int64) bool {
	return a == b || a > fixed && b > fixed
}

// objects tells whether two objects are alike but for what they name, and that is named alike.
func (m *match) objects(a, b api.Obj) bool {
	if !bytes.Equal(a.Bytes, b.Bytes) || len(a.Slots) != len(b.Slots) {
		return false
	}
	// a class that is not there is told apart too: what an object is hangs on its number
	if !mayGo(a.Class, b.Class) || !m.refs(a.Class, b.Class) {
		return false
	}
	for i := range a.Slots {
		if !m.values(a.Slots[i], b.Slots[i]) {
			return false
		}
	}
	return true
}
