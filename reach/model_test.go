package reach_test

import (
	"encoding/hex"
	"maps"
	"math/rand"
	"slices"
	"strconv"
	"strings"
	"testing"

	"lapidary/api"
	"lapidary/class"
	"lapidary/lex"
	"lapidary/number"
	"lapidary/reach"
	"lapidary/table"
	"lapidary/value"
	"lapidary/view"
	"lapidary/whole"
)

// objects is all that a view sees, by oop: the models below go by it alone.
type objects map[int64]api.Obj

// seen is a view as a map, of as many oops as grown makes.
func seen(v *view.View) objects {
	out := objects{}
	for _, from := range oops(0, api.MaxOops) {
		for oop := from; oop < from+busy; oop++ {
			if o, err := v.Peek(oop); err == api.OK {
				out[oop] = o
			}
		}
	}
	return out
}

// busy is more than how many oops are worked with, from 1 on, and from those of new objects on.
const busy = 40

// someOop is mostly one of those that may be there.
func someOop(r *rand.Rand, news int) int64 {
	switch k := r.Intn(10); {
	case k < 2:
		return 1 + r.Int63n(16)
	case k < 5 && news > 0:
		return firstNew + r.Int63n(int64(news)+1)
	case k < 6:
		return 3000 + r.Int63n(3)
	}
	return 17 + r.Int63n(8)
}

func someVal(r *rand.Rand, news int) api.Val {
	switch k := r.Intn(8); {
	case k < 3:
		return api.Val{K: r.Intn(3)}
	case k == 3:
		return integer(r.Int63n(3) - 1)
	}
	return ref(someOop(r, news))
}

// someObj is of one of the classes that are told by themselves, or of any object.
func someObj(r *rand.Rand, news int) api.Obj {
	kinds := []int64{class.Class, class.Integer, class.Complex, class.String, class.Symbol, class.Array, class.Dictionary, someOop(r, news), someOop(r, news)}
	texts := []string{"", "a", "b", "a'", "\x00\x07", "\x01\xff\xff", "+"}
	o := text(kinds[r.Intn(len(kinds))], texts[r.Intn(len(texts))])
	for range r.Intn(4) {
		o.Slots = append(o.Slots, someVal(r, news))
	}
	return o
}

// grown is a table with a few objects, and a view of it in which some were put and made.
func grown(t testing.TB, r *rand.Rand) (*table.Table, *view.View) {
	t.Helper()
	all := objects{}
	for oop := int64(1); oop < 25; oop++ {
		if r.Intn(4) > 0 {
			all[oop] = someObj(r, 0)
		}
	}
	x := laid(t, all)
	v := view.New(x)
	news := r.Intn(6)
	for range news {
		made(t, v, someObj(r, news))
	}
	for _, oop := range slices.Sorted(maps.Keys(seen(v))) {
		if r.Intn(4) == 0 {
			put(t, v, oop, someObj(r, news))
		}
	}
	return x, v
}

// rest are those of a set that are there, rising.
func (m objects) rest(set map[int64]bool) []int64 {
	var out []int64
	for _, oop := range slices.Sorted(maps.Keys(set)) {
		if _, there := m[oop]; there {
			out = append(out, oop)
		}
	}
	return out
}

// fix lets a set grow till it has all that its members that are there name.
func (m objects) fix(set map[int64]bool, names func(o api.Obj) []int64) {
	for size := -1; size != len(set); {
		size = len(set)
		for oop, o := range m {
			if set[oop] {
				for _, n := range names(o) {
					set[n] = true
				}
			}
		}
	}
}

func (m objects) closure(roots []int64) []int64 {
	set := map[int64]bool{}
	for _, oop := range roots {
		set[oop] = true
	}
	m.fix(set, value.Refs)
	return m.rest(set)
}

func (m objects) shown(x api.Val) []int64 {
	set := map[int64]bool{x.N: x.K == api.Ref}
	if x.K != api.Ref {
		return nil
	}
	m.fix(set, func(o api.Obj) []int64 {
		if o.Class == class.Class {
			return nil
		}
		return value.Refs(o)[1:]
	})
	all := maps.Clone(set)
	for oop := range set {
		all[m[oop].Class] = true
	}
	return m.rest(all)
}

// text is a value's Text, without its end. Numbers are those of the objects that were written.
func (m objects) text(x api.Val, numbers map[int64]int) string {
	words := map[int]string{api.Nil: "nil", api.False: "false", api.True: "true", api.Int: strconv.FormatInt(x.N, 10), api.Block: "a Block"}
	if s, is := words[x.K]; is {
		return s
	}
	o, there := m[x.N]
	if x.K != api.Ref || !there {
		return "?"
	}
	s := string(o.Bytes)
	switch o.Class {
	case class.String:
		return lex.Quote(s)
	case class.Symbol:
		if !lex.PlainSymbol(s) {
			s = lex.Quote(s)
		}
		return "#" + s
	case class.Integer:
		if n, err := number.Get(o.Bytes); err == api.OK && !n.Pair {
			return whole.Text(n.I)
		}
		return "?"
	case class.Complex:
		return "complex " + hex.EncodeToString(o.Bytes)
	case class.Class:
		return "class " + s
	}
	if n, written := numbers[x.N]; written {
		return "@" + strconv.Itoa(n)
	}
	if len(numbers) == 60 {
		return ".."
	}
	n := len(numbers) + 1
	numbers[x.N] = n
	var list []string
	for _, y := range o.Slots {
		list = append(list, m.text(y, numbers))
	}
	return strconv.Itoa(n) + ":" + string(m[o.Class].Bytes) + "(" + strings.Join(list, " ") + ")"
}

// same gathers all pairs of objects that would have to go together, and then asks whether they may.
func (m objects) same(x api.Val, w objects, y api.Val) bool {
	pairs := map[[2]int64]bool{}
	todo := [][2]api.Val{{x, y}}
	for len(todo) > 0 {
		x, y := todo[0][0], todo[0][1]
		todo = todo[1:]
		o, here := m[x.N]
		p, there := w[y.N]
		switch {
		case x.K != y.K:
			return false
		case x.K != api.Ref:
			if x.N != y.N {
				return false
			}
			continue
		case here != there:
			return false
		case !here || pairs[[2]int64{x.N, y.N}]:
			continue
		}
		pairs[[2]int64{x.N, y.N}] = true
		if string(o.Bytes) != string(p.Bytes) || len(o.Slots) != len(p.Slots) {
			return false
		}
		if o.Class != p.Class && (o.Class <= 16 || p.Class <= 16) {
			return false
		}
		todo = append(todo, [2]api.Val{ref(o.Class), ref(p.Class)})
		for i := range o.Slots {
			todo = append(todo, [2]api.Val{o.Slots[i], p.Slots[i]})
		}
	}
	return oneToOne(pairs)
}

func oneToOne(pairs map[[2]int64]bool) bool {
	for p := range pairs {
		if p[0] != p[1] && (p[0] <= 16 || p[1] <= 16) {
			return false
		}
		for q := range pairs {
			if (p[0] == q[0]) != (p[1] == q[1]) {
				return false
			}
		}
	}
	return true
}

// plan is a Plan as its chapter says it: first who comes in which order, then what each is.
func (m objects) plan(writes, skip, free []int64) ([]value.Change, api.Errno) {
	for i, oop := range free {
		if _, there := m[oop]; there || oop < 1 || oop > api.MaxOops || i > 0 && oop <= free[i-1] {
			return nil, api.ErrArg
		}
	}
	var order []int64
	for _, oop := range writes {
		if !slices.Contains(skip, oop) {
			order = append(order, oop)
		}
	}
	took := map[int64]int64{}
	for i := 0; i < len(order); i++ {
		for _, oop := range value.Refs(m[order[i]]) {
			if oop <= api.MaxOops || took[oop] != 0 {
				continue
			}
			if _, there := m[oop]; !there {
				return nil, api.ErrArg
			}
			if len(took) == len(free) {
				return nil, api.ErrFull
			}
			took[oop] = free[len(took)]
			order = append(order, oop)
		}
	}
	name := func(oop int64) int64 {
		if n, is := took[oop]; is {
			return n
		}
		return oop
	}
	var out []value.Change
	for _, oop := range order {
		o := value.Copy(m[oop])
		o.Class = name(o.Class)
		for i, x := range o.Slots {
			if x.K == api.Ref {
				o.Slots[i].N = name(x.N)
			}
		}
		out = append(out, change(name(oop), o))
	}
	slices.SortFunc(out, func(c, d value.Change) int { return int(c.Oop - d.Oop) })
	return out, api.OK
}

func someRoots(r *rand.Rand) []int64 {
	var out []int64
	for range r.Intn(4) {
		out = append(out, someOop(r, 6))
	}
	return out
}

// someFree are mostly oops that are free.
func someFree(r *rand.Rand, x *table.Table) []int64 {
	free := x.Free(12)
	for len(free) > 0 && r.Intn(3) > 0 {
		at := r.Intn(len(free))
		free = slices.Delete(free, at, at+1)
	}
	if r.Intn(10) == 0 {
		free = append(free, someOop(r, 1))
	}
	return free
}

// P18.1 to P18.4: at random views all is as the models say.
func TestModel(t *testing.T) {
	alikes, planned := 0, 0
	for seed := range int64(4000) {
		r := rand.New(rand.NewSource(seed))
		x, v := grown(t, r)
		_, w := grown(t, r)
		m, n := seen(v), seen(w)
		closes(t, v, nil)
		roots := someRoots(r)
		closes(t, v, roots, m.closure(roots)...)
		for range 8 {
			a, b := someVal(r, 6), someVal(r, 6)
			told(t, v, a, m.text(a, map[int64]int{}))
			shows(t, v, a, m.shown(a)...)
			alike(t, v, a, w, b, m.same(a, n, b))
			alike(t, v, a, v, b, m.same(a, m, b))
			if a != b && a.K == api.Ref && m.same(a, m, b) {
				alikes++
			}
		}
		skip, free := someRoots(r), someFree(r, x)
		want, err := m.plan(v.Writes(), skip, free)
		if err != api.OK {
			refuses(t, v, skip, free, err)
		} else {
			plans(t, v, skip, free, want...)
			planned++
		}
		if t.Failed() {
			t.Fatal("with the seed", seed)
		}
	}
	if alikes < 100 || planned < 500 {
		t.Error("only so many were alike, or planned:", alikes, planned)
	}
}

// renamed is a table with the objects of a map at other oops: those above 16 by one order turned round, those of nothing at others of nothing.
func renamed(t testing.TB, r *rand.Rand, m objects) (*view.View, func(api.Val) api.Val) {
	t.Helper()
	to := map[int64]int64{}
	places := r.Perm(busy - 17)
	for _, oop := range slices.Sorted(maps.Keys(m)) {
		to[oop] = oop
		if oop > 16 {
			to[oop], places = 17+int64(places[0]), places[1:]
		}
	}
	name := func(oop int64) int64 {
		if n, is := to[oop]; is {
			return n
		}
		if oop <= 16 {
			return oop
		}
		return 3500 + r.Int63n(9)
	}
	value := func(x api.Val) api.Val {
		if x.K == api.Ref {
			x.N = name(x.N)
		}
		return x
	}
	all := objects{}
	for oop, o := range m {
		p := api.Obj{Class: name(o.Class), Bytes: o.Bytes}
		for _, x := range o.Slots {
			p.Slots = append(p.Slots, value(x))
		}
		all[name(oop)] = p
	}
	return view.New(laid(t, all)), value
}

// P18.3, P18.5: objects at other oops are the Same, and have the same Text; with one thing changed they are as the model says.
func TestRenamed(t *testing.T) {
	changed := 0
	for seed := range int64(3000) {
		r := rand.New(rand.NewSource(seed))
		_, v := grown(t, r)
		m := seen(v)
		w, to := renamed(t, r, m)
		for oop := range m {
			alike(t, v, ref(oop), w, to(ref(oop)), true)
			told(t, w, to(ref(oop)), reach.Text(v, ref(oop)))
		}
		n := seen(w)
		which := slices.Sorted(maps.Keys(n))[r.Intn(len(n))]
		put(t, w, which, someObj(r, 0))
		n = seen(w)
		for oop := range m {
			want := m.same(ref(oop), n, to(ref(oop)))
			alike(t, v, ref(oop), w, to(ref(oop)), want)
			if !want {
				changed++
			}
		}
		if t.Failed() {
			t.Fatal("with the seed", seed)
		}
	}
	if changed < 1000 {
		t.Error("only so many were another one then:", changed)
	}
}
