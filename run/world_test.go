package run_test

import (
	"math"
	"slices"
	"strconv"
	"strings"
	"testing"

	"lapidary/api"
	"lapidary/class"
	"lapidary/kernel"
	"lapidary/number"
	"lapidary/run"
	"lapidary/table"
	"lapidary/value"
	"lapidary/view"
	"lapidary/whole"
)

// What stands where in a world, beside what the kernel makes.
const (
	keysAt   = 800  // the Symbols under which things stand in the root
	thingsAt = 1000 // the things
	free     = 2000 // what a test lays there itself
	missing  = 3000 // the oop of nothing
)

func ref(oop int64) api.Val { return api.Val{K: api.Ref, N: oop} }

func integer(n int64) api.Val { return api.Val{K: api.Int, N: n} }

func text(c int64, s string) api.Obj { return api.Obj{Class: c, Bytes: []byte(s)} }

func slots(c int64, list ...api.Val) api.Obj { return api.Obj{Class: c, Slots: list} }

// below is a class below another one, with no names of its own.
func below(super, methods int64) api.Obj {
	return slots(class.Class, ref(super), ref(16), ref(methods))
}

// world is a view of the first commit, and of more objects, in place of those too.
func world(t testing.TB, more map[int64]api.Obj) *view.View {
	t.Helper()
	first, err := kernel.Build()
	if err != api.OK {
		t.Fatal("Build", err)
	}
	x := table.New()
	if err := x.Apply(first); err != api.OK {
		t.Fatal("Apply", err)
	}
	r := value.Record{Commit: 2}
	for oop := range int64(api.MaxOops + 1) {
		if o, there := more[oop]; there {
			r.Changes = append(r.Changes, value.Change{Oop: oop, Obj: o})
		}
	}
	if err := x.Apply(r); err != api.OK {
		t.Fatal("Apply", err)
	}
	return view.New(x)
}

// rooted is a world with things of the commit, which stand in the root under the names A, B, C and so on, from thingsAt on.
func rooted(t testing.TB, things ...api.Obj) *view.View {
	t.Helper()
	more := map[int64]api.Obj{}
	root := slots(class.Dictionary)
	for i, o := range things {
		at := int64(i)
		more[keysAt+at] = text(class.Symbol, string(rune('A'+i)))
		more[thingsAt+at] = o
		root.Slots = append(root.Slots, ref(keysAt+at), ref(thingsAt+at))
	}
	more[class.Root] = root
	return world(t, more)
}

// start is a run of a source that is one.
func start(t testing.TB, v *view.View, source string) *run.Run {
	t.Helper()
	r, at, err := run.Start(v, source)
	if err != api.OK || at != 0 || r == nil {
		t.Fatalf("Start(%q): %v at %d", source, err, at)
	}
	return r
}

// over is a run that went on till it was over.
func over(t testing.TB, v *view.View, source string) *run.Run {
	t.Helper()
	r := start(t, v, source)
	for range 50 {
		if r.Go(20000) {
			return r
		}
	}
	t.Fatalf("%q does not end", source)
	return nil
}

// came is what came of a source, as a text: a value as shown, or "! " and an error.
func came(t testing.TB, v *view.View, source string) string {
	t.Helper()
	return result(v, over(t, v, source))
}

func result(v *view.View, r *run.Run) string {
	x, failure := r.Value()
	if failure == "" {
		return show(v, x, 6)
	}
	if x != (api.Val{}) {
		return "beside the error " + failure + ": " + show(v, x, 6)
	}
	return "! " + failure
}

// do runs what must not err.
func do(t testing.TB, v *view.View, sources ...string) {
	t.Helper()
	for _, s := range sources {
		if got := came(t, v, s); strings.HasPrefix(got, "!") {
			t.Fatalf("%q: %s", s, got)
		}
	}
}

// wants runs sources, each with what must come of it behind it, in one view.
func wants(t *testing.T, v *view.View, list ...string) {
	t.Helper()
	for i := 0; i+1 < len(list); i += 2 {
		if got := came(t, v, list[i]); got != list[i+1] {
			t.Errorf("%q: %s, want %s", list[i], got, list[i+1])
		}
	}
}

// show is a value as a text, by what the view has, up to so many objects within each other.
func show(v *view.View, x api.Val, nest int) string {
	switch x.K {
	case api.Nil:
		return "nil"
	case api.False:
		return "false"
	case api.True:
		return "true"
	case api.Int:
		return strconv.FormatInt(x.N, 10)
	case api.Block:
		return "a block"
	}
	o, err := v.Peek(x.N)
	if x.K != api.Ref || err != api.OK {
		return "none"
	}
	switch o.Class {
	case class.Class:
		return "class " + string(o.Bytes)
	case class.String:
		return strconv.Quote(string(o.Bytes))
	case class.Symbol:
		return "#" + string(o.Bytes)
	case class.Integer, class.Complex:
		return showNumber(o)
	}
	if nest == 0 {
		return ".."
	}
	var parts []string
	for _, y := range o.Slots {
		parts = append(parts, show(v, y, nest-1))
	}
	c, _ := v.Peek(o.Class)
	return string(c.Bytes) + "(" + strings.Join(parts, " ") + ")"
}

func showNumber(o api.Obj) string {
	n, err := number.Get(o.Bytes)
	switch {
	case err != api.OK:
		return "no number"
	case !n.Pair:
		return "large " + whole.Text(n.I)
	}
	return "complex " + float(real(n.C)) + " " + float(imag(n.C))
}

func float(f float64) string {
	if f == 0 && math.Signbit(f) {
		return "-0"
	}
	return strconv.FormatFloat(f, 'g', -1, 64)
}

// has tells whether an object was read, or written.
func has(list []int64, oop int64) bool { return slices.Contains(list, oop) }

// fill makes new objects, till only so many more can be made.
func fill(t testing.TB, v *view.View, left int) {
	t.Helper()
	for range api.MaxOops - len(v.News()) - left {
		if _, err := v.Make(api.Obj{Class: 1}); err != api.OK {
			t.Fatal("Make", err)
		}
	}
}

func put(t testing.TB, v *view.View, oop int64, o api.Obj) {
	t.Helper()
	if err := v.Put(oop, o); err != api.OK {
		t.Fatal("Put", oop, err)
	}
}

func peek(t testing.TB, v *view.View, oop int64) api.Obj {
	t.Helper()
	o, err := v.Peek(oop)
	if err != api.OK {
		t.Fatal("Peek", oop, err)
	}
	return o
}

// sameView asks that two views are alike in all that they tell.
func sameView(t testing.TB, v, w *view.View) {
	t.Helper()
	if !slices.Equal(v.Reads(), w.Reads()) {
		t.Errorf("%v were read, want %v", v.Reads(), w.Reads())
	}
	if !slices.Equal(v.Writes(), w.Writes()) {
		t.Errorf("%v were written, want %v", v.Writes(), w.Writes())
	}
	if !slices.Equal(v.News(), w.News()) {
		t.Errorf("%d were made, want %d", len(v.News()), len(w.News()))
	}
	for _, oop := range append(v.Writes(), v.News()...) {
		if a, b := peek(t, v, oop), peek(t, w, oop); !value.Same(a, b) {
			t.Errorf("%d is %v, want %v", oop, a, b)
		}
	}
}
