package value_test

import (
	"bytes"
	"math"
	"slices"
	"testing"

	"lapidary/api"
	"lapidary/value"
)

// numbers are those at an edge of some kind of value, and those beside them.
func numbers() []int64 {
	out := []int64{math.MinInt64, math.MaxInt64}
	for _, edge := range []int64{0, 64, 300, api.MaxOops, api.Small, -api.Small, math.MinInt64 + 1, math.MaxInt64 - 1} {
		out = append(out, edge-1, edge, edge+1)
	}
	return out
}

// canBeKept is the document's words on values, without a switch.
func canBeKept(v api.Val) bool {
	return v.K >= 0 && v.K <= 2 && v.N == 0 ||
		v.K == 3 && v.N >= -(1<<60) && v.N <= 1<<60-1 ||
		v.K == 4 && v.N >= 1 && v.N <= 4096
}

// values are of all kinds, and of none.
func values() []api.Val {
	var out []api.Val
	for _, k := range []int{math.MinInt, -1, 0, 1, 2, 3, 4, 5, 6, 255, 256, 259, 260, 1 << 32, math.MaxInt} {
		for _, n := range numbers() {
			out = append(out, api.Val{K: k, N: n})
		}
	}
	return out
}

func keepable() []api.Val {
	return slices.DeleteFunc(values(), func(v api.Val) bool { return !canBeKept(v) })
}

// P5.1
func TestRight(t *testing.T) {
	for _, v := range values() {
		if got := value.Right(v); got != canBeKept(v) {
			t.Errorf("Right(%v) = %v", v, got)
		}
	}
	rows := []struct {
		v    api.Val
		want bool
	}{
		{api.Val{}, true}, {api.Val{K: api.False}, true}, {api.Val{K: api.True}, true},
		{api.Val{N: 1}, false}, {api.Val{K: api.False, N: -1}, false}, {api.Val{K: api.True, N: 1}, false},
		{api.Val{K: api.Int}, true}, {api.Val{K: api.Int, N: api.Small - 1}, true}, {api.Val{K: api.Int, N: -api.Small}, true},
		{api.Val{K: api.Int, N: api.Small}, false}, {api.Val{K: api.Int, N: -api.Small - 1}, false},
		{api.Val{K: api.Ref, N: 1}, true}, {api.Val{K: api.Ref, N: api.MaxOops}, true},
		{api.Val{K: api.Ref}, false}, {api.Val{K: api.Ref, N: api.MaxOops + 1}, false}, {api.Val{K: api.Ref, N: -1}, false},
		{api.Val{K: api.Block}, false}, {api.Val{K: api.Block, N: 1}, false},
	}
	for _, r := range rows {
		if got := value.Right(r.v); got != r.want {
			t.Errorf("Right(%v) = %v", r.v, got)
		}
	}
}

// wrongObjs are objects that can not be kept, each for one reason.
func wrongObjs() []api.Obj {
	out := []api.Obj{
		{}, {Class: -1}, {Class: api.MaxOops + 1}, {Class: math.MinInt64}, {Class: math.MaxInt64},
		{Class: 1, Slots: make([]api.Val, api.MaxSlots+1)},
		{Class: 1, Bytes: make([]byte, api.MaxBytes+1)},
		{Class: 0, Slots: []api.Val{{K: api.Int, N: 5}}, Bytes: []byte("a")},
	}
	for _, v := range values() {
		if !canBeKept(v) {
			out = append(out, api.Obj{Class: 1, Slots: []api.Val{v}})
		}
	}
	last := make([]api.Val, api.MaxSlots)
	last[api.MaxSlots-1] = api.Val{K: api.Block, N: 1}
	return append(out, api.Obj{Class: 1, Slots: last})
}

// rightObjs are objects that can be kept, no two alike.
func rightObjs() []api.Obj {
	full := make([]api.Val, api.MaxSlots)
	for i := range full {
		full[i] = api.Val{K: api.Int, N: -api.Small}
	}
	var out []api.Obj
	for _, class := range []int64{1, 2, 127, 128, 255, 300, api.MaxOops} {
		for _, size := range []int{0, 1, 2, 127, 128, api.MaxBytes - 1, api.MaxBytes} {
			out = append(out, api.Obj{Class: class, Bytes: bytes.Repeat([]byte{4}, size)})
		}
	}
	for _, size := range []int{1, 2, 127, 128, api.MaxSlots - 1, api.MaxSlots} {
		out = append(out, api.Obj{Class: 7, Slots: make([]api.Val, size)}, api.Obj{Class: 7, Slots: full[:size], Bytes: []byte("a")})
	}
	for _, v := range keepable() {
		out = append(out, api.Obj{Class: 9, Slots: []api.Val{v}}, api.Obj{Class: 9, Slots: []api.Val{v, {}, v, v}, Bytes: []byte{0}})
	}
	return append(out, api.Obj{Class: api.MaxOops, Slots: full, Bytes: bytes.Repeat([]byte{255}, api.MaxBytes)})
}

// P5.1
func TestRightObj(t *testing.T) {
	for i, o := range wrongObjs() {
		if value.RightObj(o) {
			t.Errorf("RightObj of the wrong object %d, of class %d", i, o.Class)
		}
	}
	for i, o := range rightObjs() {
		if !value.RightObj(o) {
			t.Errorf("not RightObj: object %d, of class %d", i, o.Class)
		}
	}
}

// P5.1
func TestSame(t *testing.T) {
	o := api.Obj{Class: 7, Slots: []api.Val{{K: api.Int, N: 1}, {K: api.True}}, Bytes: []byte("ab")}
	others := []api.Obj{
		{Class: 8, Slots: o.Slots, Bytes: o.Bytes},
		{Class: 7, Slots: []api.Val{{K: api.Int, N: 2}, {K: api.True}}, Bytes: o.Bytes},
		{Class: 7, Slots: []api.Val{{K: api.Ref, N: 1}, {K: api.True}}, Bytes: o.Bytes},
		{Class: 7, Slots: []api.Val{{K: api.True}, {K: api.Int, N: 1}}, Bytes: o.Bytes},
		{Class: 7, Slots: o.Slots[:1], Bytes: o.Bytes},
		{Class: 7, Slots: append(slices.Clone(o.Slots), api.Val{}), Bytes: o.Bytes},
		{Class: 7, Bytes: o.Bytes},
		{Class: 7, Slots: o.Slots, Bytes: []byte("ac")},
		{Class: 7, Slots: o.Slots, Bytes: []byte("a")},
		{Class: 7, Slots: o.Slots, Bytes: []byte("ab\x00")},
		{Class: 7, Slots: o.Slots},
		{},
	}
	for i, p := range others {
		if value.Same(o, p) || value.Same(p, o) {
			t.Error("Same as another one", i)
		}
		if !value.Same(p, p) {
			t.Error("not the Same as itself", i)
		}
	}
	if !value.Same(api.Obj{Class: 1}, api.Obj{Class: 1, Slots: []api.Val{}, Bytes: []byte{}}) {
		t.Error("a nil list is an empty one")
	}
	for i, o := range wrongObjs() {
		if !value.Same(o, value.Copy(o)) {
			t.Error("not the Same as its copy", i)
		}
	}
}

// P5.1
func TestCopy(t *testing.T) {
	for i, o := range append(rightObjs(), wrongObjs()...) {
		was := api.Obj{Class: o.Class, Slots: append([]api.Val{}, o.Slots...), Bytes: append([]byte{}, o.Bytes...)}
		c := value.Copy(o)
		if c.Class != was.Class || !slices.Equal(c.Slots, was.Slots) || !bytes.Equal(c.Bytes, was.Bytes) {
			t.Fatal("Copy", i)
		}
		spoil(c)
		if !value.Same(o, was) {
			t.Fatal("Copy shares memory", i)
		}
	}
}

// spoil writes over all that o has, and behind it.
func spoil(o api.Obj) {
	for i := range o.Slots {
		o.Slots[i] = api.Val{K: 77, N: 77}
	}
	for i := range o.Bytes {
		o.Bytes[i] ^= 255
	}
	_ = append(o.Slots, api.Val{K: 78, N: 78})
	_ = append(o.Bytes, 79)
}

// P5.1
func TestRefs(t *testing.T) {
	rows := []struct {
		o    api.Obj
		want []int64
	}{
		{api.Obj{Class: 7, Slots: []api.Val{{K: api.Int, N: -1}, {K: api.Ref, N: 300}}}, []int64{7, 300}},
		{api.Obj{}, nil},
		{api.Obj{Class: -3}, nil},
		{api.Obj{Class: math.MinInt64, Slots: []api.Val{{K: api.Ref, N: 2}}}, []int64{2}},
		{api.Obj{Class: 1 << 50}, []int64{1 << 50}},
		{api.Obj{Class: 5, Slots: []api.Val{{K: api.Ref, N: 5}, {K: api.Ref, N: 3}, {K: api.Ref, N: 5}}}, []int64{5, 5, 3, 5}},
		{api.Obj{Slots: []api.Val{{K: api.Ref}, {K: api.Ref, N: -9}, {K: api.Ref, N: math.MaxInt64}}}, []int64{0, -9, math.MaxInt64}},
		{api.Obj{Class: 2, Slots: []api.Val{{N: 1}, {K: api.False, N: 1}, {K: api.True, N: 1}, {K: api.Int, N: 1}, {K: api.Block, N: 1}, {K: -4, N: 1}, {K: 260, N: 1}}}, []int64{2}},
	}
	for _, r := range rows {
		if got := value.Refs(r.o); !slices.Equal(got, r.want) {
			t.Errorf("Refs(%v) = %v", r.o, got)
		}
		first := value.Refs(r.o)
		clear(first)
		if got := value.Refs(r.o); !slices.Equal(got, r.want) {
			t.Errorf("Refs(%v) = %v behind a written answer", r.o, got)
		}
	}
	many := make([]api.Val, 5000)
	for i := range many {
		many[i] = api.Val{K: api.Ref, N: int64(i)}
	}
	if got := value.Refs(api.Obj{Slots: many}); len(got) != len(many) || got[4999] != 4999 {
		t.Error("Refs of many", len(got))
	}
}

// P5.1
func TestRightRecord(t *testing.T) {
	o := api.Obj{Class: 1}
	long := make([]value.Change, api.MaxOops+1)
	for i := range long {
		long[i] = value.Change{Oop: int64(i) + 1, Gone: true}
	}
	with := func(changes ...value.Change) value.Record { return value.Record{Commit: 1, Changes: changes} }
	rows := []struct {
		name string
		r    value.Record
		want bool
	}{
		{"no commit", value.Record{}, false},
		{"the first commit", value.Record{Commit: 1}, true},
		{"the last commit", value.Record{Commit: api.MaxCommit}, true},
		{"beyond the last commit", value.Record{Commit: api.MaxCommit + 1}, false},
		{"a commit below nought", value.Record{Commit: -1}, false},
		{"all oops", value.Record{Commit: 1, Changes: long[:api.MaxOops]}, true},
		{"one more", value.Record{Commit: 1, Changes: long}, false},
		{"the first oop", with(value.Change{Oop: 1, Obj: o}), true},
		{"the last oop", with(value.Change{Oop: api.MaxOops, Obj: o}), true},
		{"oop 0", with(value.Change{Oop: 0, Obj: o}), false},
		{"an oop below nought", with(value.Change{Oop: -1, Obj: o}), false},
		{"the least oop", with(value.Change{Oop: math.MinInt64, Obj: o}), false},
		{"an oop beyond the last", with(value.Change{Oop: api.MaxOops + 1, Obj: o}), false},
		{"rising", with(value.Change{Oop: 3, Obj: o}, value.Change{Oop: 4, Gone: true}, value.Change{Oop: 9, Obj: o}), true},
		{"twice the same", with(value.Change{Oop: 3, Obj: o}, value.Change{Oop: 3, Obj: o}), false},
		{"falling", with(value.Change{Oop: 3, Obj: o}, value.Change{Oop: 2, Gone: true}), false},
		{"no object", with(value.Change{Oop: 3}), false},
		{"gone, with empty lists", with(value.Change{Oop: 3, Gone: true, Obj: api.Obj{Slots: []api.Val{}, Bytes: []byte{}}}), true},
		{"gone, with a class", with(value.Change{Oop: 3, Gone: true, Obj: o}), false},
		{"gone, with a slot", with(value.Change{Oop: 3, Gone: true, Obj: api.Obj{Slots: make([]api.Val, 1)}}), false},
		{"gone, with a byte", with(value.Change{Oop: 3, Gone: true, Obj: api.Obj{Bytes: make([]byte, 1)}}), false},
	}
	for _, r := range rows {
		if got := value.RightRecord(r.r); got != r.want {
			t.Errorf("RightRecord of %s = %v", r.name, got)
		}
	}
	for i, o := range wrongObjs() {
		if value.RightRecord(with(value.Change{Oop: 2, Obj: api.Obj{Class: 1}}, value.Change{Oop: 3, Obj: o})) {
			t.Error("RightRecord of the wrong object", i)
		}
	}
	for i, o := range rightObjs() {
		if !value.RightRecord(with(value.Change{Oop: 3, Obj: o})) {
			t.Error("not RightRecord of the right object", i)
		}
	}
}
