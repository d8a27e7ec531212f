package reach_test

import (
	"slices"
	"testing"

	"lapidary/api"
	"lapidary/class"
	"lapidary/kernel"
	"lapidary/reach"
	"lapidary/table"
	"lapidary/value"
	"lapidary/view"
)

// What stands where in a world, beside what the kernel makes.
const (
	things   = 1000 // what a test lays there, from there on
	missing  = 3000 // the oop of nothing
	firstNew = api.MaxOops + 1
)

func ref(oop int64) api.Val { return api.Val{K: api.Ref, N: oop} }

func integer(n int64) api.Val { return api.Val{K: api.Int, N: n} }

func text(c int64, s string) api.Obj { return api.Obj{Class: c, Bytes: []byte(s)} }

func slots(c int64, list ...api.Val) api.Obj { return api.Obj{Class: c, Slots: list} }

func array(list ...api.Val) api.Obj { return slots(class.Array, list...) }

func oops(list ...int64) []int64 { return list }

// laid is a table with objects behind its one commit, and nothing else.
func laid(t testing.TB, objects map[int64]api.Obj) *table.Table {
	t.Helper()
	x := table.New()
	r := value.Record{Commit: 1}
	for oop := range int64(api.MaxOops + 1) {
		if o, there := objects[oop]; there {
			r.Changes = append(r.Changes, value.Change{Oop: oop, Obj: o})
		}
	}
	if err := x.Apply(r); err != api.OK {
		t.Fatal("Apply", err)
	}
	return x
}

// ground is a table with what the kernel makes, and more objects, in place of those too.
func ground(t testing.TB, more map[int64]api.Obj) *table.Table {
	t.Helper()
	first, err := kernel.Build()
	if err != api.OK {
		t.Fatal("Build", err)
	}
	objects := map[int64]api.Obj{}
	for _, c := range first.Changes {
		objects[c.Oop] = c.Obj
	}
	for oop, o := range more {
		objects[oop] = o
	}
	return laid(t, objects)
}

func world(t testing.TB, more map[int64]api.Obj) *view.View {
	t.Helper()
	return view.New(ground(t, more))
}

// with is a world with things from 1000 on.
func with(t testing.TB, list ...api.Obj) *view.View {
	t.Helper()
	more := map[int64]api.Obj{}
	for i, o := range list {
		more[things+int64(i)] = o
	}
	return world(t, more)
}

func put(t testing.TB, v *view.View, oop int64, o api.Obj) {
	t.Helper()
	if err := v.Put(oop, o); err != api.OK {
		t.Fatalf("Put(%d, %v): %v", oop, o, err)
	}
}

func made(t testing.TB, v *view.View, o api.Obj) int64 {
	t.Helper()
	oop, err := v.Make(o)
	if err != api.OK {
		t.Fatalf("Make(%v): %v", o, err)
	}
	return oop
}

// quiet asks that a call reads, writes and makes nothing.
func quiet(t testing.TB, v *view.View, call func()) {
	t.Helper()
	reads, writes, news := v.Reads(), v.Writes(), v.News()
	call()
	if !slices.Equal(v.Reads(), reads) || !slices.Equal(v.Writes(), writes) || !slices.Equal(v.News(), news) {
		t.Errorf("it has read %v, written %v, made %v", v.Reads(), v.Writes(), v.News())
	}
}

// told asks for a Text.
func told(t testing.TB, v *view.View, x api.Val, want string) {
	t.Helper()
	quiet(t, v, func() {
		if s := reach.Text(v, x); s != want {
			t.Errorf("Text(%v) = %q, want %q", x, s, want)
		}
	})
}

// closes asks for a Closure.
func closes(t testing.TB, v *view.View, roots []int64, want ...int64) {
	t.Helper()
	old := slices.Clone(roots)
	quiet(t, v, func() {
		got := reach.Closure(v, roots)
		if !slices.Equal(got, want) {
			t.Errorf("Closure(%v) = %v, want %v", roots, got, want)
		}
		for i := range got {
			got[i] = -1
		}
		if again := reach.Closure(v, roots); !slices.Equal(again, want) {
			t.Errorf("Closure(%v) = %v, when its answer is written into", roots, again)
		}
	})
	if !slices.Equal(roots, old) {
		t.Errorf("Closure has changed its roots: %v, before %v", roots, old)
	}
}

// shows asks for what is Shown.
func shows(t testing.TB, v *view.View, x api.Val, want ...int64) {
	t.Helper()
	quiet(t, v, func() {
		if got := reach.Shown(v, x); !slices.Equal(got, want) {
			t.Errorf("Shown(%v) = %v, want %v", x, got, want)
		}
	})
}

// alike asks for Same, either way round.
func alike(t testing.TB, v *view.View, x api.Val, w *view.View, y api.Val, want bool) {
	t.Helper()
	quiet(t, v, func() {
		quiet(t, w, func() {
			if got := reach.Same(v, x, w, y); got != want {
				t.Errorf("Same(%v, %v) = %v, want %v", x, y, got, want)
			}
			if got := reach.Same(w, y, v, x); got != want {
				t.Errorf("Same(%v, %v) = %v the other way round, want %v", y, x, got, want)
			}
		})
	})
}

func change(oop int64, o api.Obj) value.Change { return value.Change{Oop: oop, Obj: o} }

func sameChange(c, d value.Change) bool {
	return c.Oop == d.Oop && c.Gone == d.Gone && value.Same(c.Obj, d.Obj)
}

// plans asks for a Plan that comes about.
func plans(t testing.TB, v *view.View, skip, free []int64, want ...value.Change) {
	t.Helper()
	oldSkip, oldFree := slices.Clone(skip), slices.Clone(free)
	quiet(t, v, func() {
		got, err := reach.Plan(v, skip, free)
		if err != api.OK || !slices.EqualFunc(got, want, sameChange) {
			t.Errorf("Plan(%v, %v) = %v %v, want %v", skip, free, got, err, want)
		}
		for _, c := range got { // nobody else sees what is written into an answer
			for i := range c.Obj.Slots {
				c.Obj.Slots[i] = api.Val{}
			}
			for i := range c.Obj.Bytes {
				c.Obj.Bytes[i] = 0
			}
		}
		if again, err := reach.Plan(v, skip, free); err != api.OK || !slices.EqualFunc(again, want, sameChange) {
			t.Errorf("Plan(%v, %v) = %v %v, when its answer is written into", skip, free, again, err)
		}
	})
	if !slices.Equal(skip, oldSkip) || !slices.Equal(free, oldFree) {
		t.Errorf("Plan has changed what was given: %v %v, before %v %v", skip, free, oldSkip, oldFree)
	}
}

// refuses asks for a Plan's error.
func refuses(t testing.TB, v *view.View, skip, free []int64, want api.Errno) {
	t.Helper()
	quiet(t, v, func() {
		if got, err := reach.Plan(v, skip, free); err != want || len(got) != 0 {
			t.Errorf("Plan(%v, %v) = %v %v, want %v", skip, free, got, err, want)
		}
	})
}
