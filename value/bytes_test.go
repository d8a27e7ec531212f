package value_test

import (
	"bytes"
	"encoding/binary"
	"math"
	"slices"
	"testing"

	"lapidary/api"
	"lapidary/value"
)

// number writes a number as the bytes of chapter 1.
func number(n uint64) []byte {
	return binary.AppendUvarint(nil, n)
}

// written is the document's words on an object's bytes.
func written(o api.Obj) []byte {
	b := slices.Concat(number(uint64(o.Class)), number(uint64(len(o.Slots))))
	for _, v := range o.Slots {
		b = append(b, byte(v.K))
		if v.K == api.Int {
			b = binary.AppendVarint(b, v.N) // encoding/binary folds as chapter 1 does
		}
		if v.K == api.Ref {
			b = binary.AppendUvarint(b, uint64(v.N))
		}
	}
	return slices.Concat(b, number(uint64(len(o.Bytes))), o.Bytes)
}

// writtenRecord is the document's words on a record's bytes.
func writtenRecord(r value.Record) []byte {
	b := slices.Concat(number(uint64(r.Commit)), number(uint64(len(r.Changes))))
	for _, c := range r.Changes {
		b = append(b, number(uint64(c.Oop))...)
		if c.Gone {
			b = append(b, 1)
		} else {
			b = append(append(b, 0), written(c.Obj)...)
		}
	}
	return b
}

func sameRecord(a, b value.Record) bool {
	return a.Commit == b.Commit && slices.EqualFunc(a.Changes, b.Changes, func(x, y value.Change) bool {
		return x.Oop == y.Oop && x.Gone == y.Gone && value.Same(x.Obj, y.Obj)
	})
}

func isNoObj(o api.Obj) bool {
	return o.Class == 0 && len(o.Slots) == 0 && len(o.Bytes) == 0
}

// records are some that can be, of at most MaxRecord bytes.
func records() []value.Record {
	gone := make([]value.Change, api.MaxOops)
	for i := range gone {
		gone[i] = value.Change{Oop: int64(i) + 1, Gone: true}
	}
	out := []value.Record{
		{Commit: 1}, {Commit: 300}, {Commit: api.MaxCommit},
		{Commit: 2, Changes: gone},
		{Commit: 2, Changes: gone[api.MaxOops-1:]},
	}
	for i, o := range rightObjs() {
		at := int64(i)*3 + 2
		out = append(out, value.Record{Commit: int64(i*i) + 1, Changes: []value.Change{
			{Oop: 1, Gone: true}, {Oop: at, Obj: o}, {Oop: at + 1, Gone: true}, {Oop: at + 2, Obj: o}, {Oop: api.MaxOops, Obj: api.Obj{Class: 1}},
		}})
	}
	return out
}

// P5.2, P5.3
func TestPutIsReadAsItWas(t *testing.T) {
	o := api.Obj{Class: 7, Slots: []api.Val{{K: api.Int, N: -1}, {K: api.Ref, N: 300}}}
	if b, err := value.Put(o); string(b) != "\x07\x02\x03\x01\x04\xac\x02\x00" || err != api.OK {
		t.Errorf("Put = %x, %d", b, err)
	}
	all := []api.Val{{}, {K: api.False}, {K: api.True}, {K: api.Int, N: 150}, {K: api.Ref, N: 1}}
	if b, err := value.Put(api.Obj{Class: 1, Slots: all, Bytes: []byte("ab")}); string(b) != "\x01\x05\x00\x01\x02\x03\xac\x02\x04\x01\x02ab" || err != api.OK {
		t.Errorf("Put = %x, %d", b, err)
	}
	for i, o := range rightObjs() {
		b, err := value.Put(o)
		if err != api.OK || !bytes.Equal(b, written(o)) {
			t.Errorf("Put of object %d = %x, %d", i, b, err)
		}
		got, err := value.Get(b)
		if err != api.OK || !value.Same(got, o) {
			t.Errorf("Get(Put) of object %d: %v, %d", i, got, err)
		}
	}
}

// P5.2, P5.3
func TestPutRecordIsReadAsItWas(t *testing.T) {
	r := value.Record{Commit: 300, Changes: []value.Change{{Oop: 1, Obj: api.Obj{Class: 7, Bytes: []byte("a")}}, {Oop: 200, Gone: true}}}
	if b, err := value.PutRecord(r); string(b) != "\xac\x02\x02\x01\x00\x07\x00\x01a\xc8\x01\x01" || err != api.OK {
		t.Errorf("PutRecord = %x, %d", b, err)
	}
	for i, r := range records() {
		b, err := value.PutRecord(r)
		if err != api.OK || !bytes.Equal(b, writtenRecord(r)) {
			t.Errorf("PutRecord of record %d: %d bytes, %d", i, len(b), err)
		}
		got, err := value.GetRecord(b)
		if err != api.OK || !sameRecord(got, r) {
			t.Errorf("GetRecord(PutRecord) of record %d: %d", i, err)
		}
	}
}

// P5.2: what can not be is not written.
func TestPutTellsFaults(t *testing.T) {
	for i, o := range wrongObjs() {
		if b, err := value.Put(o); len(b) != 0 || err != api.ErrArg {
			t.Errorf("Put of the wrong object %d: %x, %d", i, b, err)
		}
		r := value.Record{Commit: 1, Changes: []value.Change{{Oop: 1, Obj: o}}}
		if b, err := value.PutRecord(r); len(b) != 0 || err != api.ErrArg {
			t.Errorf("PutRecord of the wrong object %d: %x, %d", i, b, err)
		}
	}
	one := value.Change{Oop: 1, Gone: true}
	wrong := []value.Record{
		{}, {Commit: -1}, {Commit: api.MaxCommit + 1}, {Commit: math.MinInt64},
		{Commit: 1, Changes: []value.Change{one, one}},
		{Commit: 1, Changes: []value.Change{{Oop: 2, Gone: true}, one}},
		{Commit: 1, Changes: []value.Change{{Gone: true}}},
		{Commit: 1, Changes: []value.Change{{Oop: api.MaxOops + 1, Gone: true}}},
		{Commit: 1, Changes: []value.Change{{Oop: 1, Gone: true, Obj: api.Obj{Class: 1}}}},
		{Commit: 1, Changes: make([]value.Change, api.MaxOops+1)},
	}
	for i, r := range wrong {
		if b, err := value.PutRecord(r); len(b) != 0 || err != api.ErrArg {
			t.Errorf("PutRecord of the wrong record %d: %x, %d", i, b, err)
		}
	}
}

// ofSize is a record of just so many bytes.
func ofSize(t *testing.T, size int) value.Record {
	r := value.Record{Commit: 1}
	for size-len(writtenRecord(r)) > 1100 {
		r.Changes = append(r.Changes, value.Change{Oop: int64(len(r.Changes)) + 1, Obj: api.Obj{Class: 1, Bytes: make([]byte, 1000)}})
	}
	last := value.Change{Oop: api.MaxOops, Obj: api.Obj{Class: 1}}
	for len(last.Obj.Bytes) < api.MaxBytes {
		full := value.Record{Commit: 1, Changes: append(slices.Clone(r.Changes), last)}
		if len(writtenRecord(full)) == size {
			return full
		}
		last.Obj.Bytes = append(last.Obj.Bytes, 5)
	}
	t.Fatal("no record of that size", size)
	return r
}

// P5.2: MaxRecord bytes are written, one more is not; read is what is of any length.
func TestHowLongARecordIs(t *testing.T) {
	for _, size := range []int{api.MaxRecord - 1, api.MaxRecord} {
		r := ofSize(t, size)
		if b, err := value.PutRecord(r); err != api.OK || len(b) != size || !bytes.Equal(b, writtenRecord(r)) {
			t.Errorf("PutRecord of %d bytes: %d bytes, %d", size, len(b), err)
		}
	}
	greatest := value.Record{Commit: api.MaxCommit}
	o := api.Obj{Class: api.MaxOops, Slots: make([]api.Val, api.MaxSlots), Bytes: make([]byte, api.MaxBytes)}
	for i := range int64(api.MaxOops) {
		greatest.Changes = append(greatest.Changes, value.Change{Oop: i + 1, Obj: o})
	}
	for _, r := range []value.Record{ofSize(t, api.MaxRecord+1), ofSize(t, api.MaxRecord+1000), greatest} {
		if b, err := value.PutRecord(r); err != api.ErrSize || len(b) != 0 {
			t.Errorf("PutRecord of too many bytes: %d bytes, %d", len(b), err)
		}
		b := writtenRecord(r)
		if got, err := value.GetRecord(b); err != api.OK || !sameRecord(got, r) {
			t.Errorf("GetRecord of %d bytes: %d", len(b), err)
		}
		if got, err := value.GetRecord(append(b, 0)); err != api.ErrForm || got.Commit != 0 || len(got.Changes) != 0 {
			t.Errorf("GetRecord of %d bytes and one behind: %d", len(b), err)
		}
	}
	// What can not be is told ahead of what is too long.
	wrong := ofSize(t, api.MaxRecord+1)
	wrong.Changes[len(wrong.Changes)-1].Gone = true
	if b, err := value.PutRecord(wrong); err != api.ErrArg || len(b) != 0 {
		t.Errorf("PutRecord of too many bytes that can not be: %d bytes, %d", len(b), err)
	}
}

// wrongBytes are no object's, each for one reason.
func wrongBytes() map[string][]byte {
	join := slices.Concat[[]byte]
	return map[string][]byte{
		"nothing":                        nil,
		"class 0":                        {0, 0, 0},
		"a class beyond MaxOops":         join(number(api.MaxOops+1), []byte{0, 0}),
		"the greatest class":             join(number(math.MaxUint64), []byte{0, 0}),
		"class 2^63 and 1":               join(number(1<<63+1), []byte{0, 0}),
		"a class of a byte too many":     {0x81, 0, 0, 0},
		"too many slots, all there":      join([]byte{1}, number(api.MaxSlots+1), make([]byte, api.MaxSlots+1), []byte{0}),
		"slots that are not there":       join([]byte{1}, number(math.MaxUint64)),
		"slots of a byte too many":       {1, 0x80, 0, 0},
		"a slot of the kind Block":       {1, 1, 5, 0},
		"a slot of the kind Block and 1": {1, 1, 5, 1, 0},
		"a slot of the kind 6":           {1, 1, 6, 0},
		"a slot of the kind 255":         {1, 1, 255, 0},
		"a slot of the kind 259":         {1, 1, 0x83, 2, 1, 0},
		"Small":                          join([]byte{1, 1, 3}, number(2*api.Small), []byte{0}),
		"-Small - 1":                     join([]byte{1, 1, 3}, number(2*api.Small+1), []byte{0}),
		"the greatest Int":               join([]byte{1, 1, 3}, number(math.MaxUint64), []byte{0}),
		"an Int of a byte too many":      {1, 1, 3, 0x80, 0, 0},
		"Ref 0":                          {1, 1, 4, 0, 0},
		"a Ref beyond MaxOops":           join([]byte{1, 1, 4}, number(api.MaxOops+1), []byte{0}),
		"the greatest Ref":               join([]byte{1, 1, 4}, number(math.MaxUint64), []byte{0}),
		"a Ref of a byte too many":       {1, 1, 4, 0x85, 0, 0},
		"too many bytes, all there":      join([]byte{1, 0}, number(api.MaxBytes+1), make([]byte, api.MaxBytes+1)),
		"60001 bytes, all there":         join([]byte{1, 0}, number(api.MaxRecord+1), make([]byte, api.MaxRecord+1)),
		"bytes that are not there":       {1, 0, 2, 5},
		"bytes of a byte too many":       {1, 0, 0x81, 0, 5},
		"a byte behind":                  {1, 0, 0, 0},
		"an object behind":               {1, 0, 0, 1, 0, 0},
	}
}

// P5.2, and the rule that beside an error all else is zero.
func TestGetTellsFaults(t *testing.T) {
	for name, b := range wrongBytes() {
		if o, err := value.Get(b); err != api.ErrForm || !isNoObj(o) {
			t.Errorf("Get of %s: %v, %d", name, o, err)
		}
	}
	for i, o := range rightObjs() {
		b := written(o)
		for _, size := range []int{0, 1, 2, 3, len(b) / 2, len(b) - 1} {
			if o, err := value.Get(b[:min(size, len(b)-1)]); err != api.ErrForm || !isNoObj(o) {
				t.Errorf("Get of object %d's first %d bytes: %d", i, size, err)
			}
		}
		if o, err := value.Get(append(b, 0)); err != api.ErrForm || !isNoObj(o) {
			t.Errorf("Get of object %d and a byte behind: %d", i, err)
		}
	}
}

// P5.2
func TestGetRecordTellsFaults(t *testing.T) {
	join := slices.Concat[[]byte]
	var tooMany []byte
	for i := range uint64(api.MaxOops + 1) {
		tooMany = append(append(tooMany, number(i+1)...), 1)
	}
	rows := map[string][]byte{
		"nothing":                    nil,
		"commit 0":                   {0, 0},
		"a commit beyond the last":   join(number(api.MaxCommit+1), []byte{0}),
		"the greatest commit":        join(number(math.MaxUint64), []byte{0}),
		"a commit and no more":       {1},
		"a commit of too many bytes": {0x81, 0, 0},
		"a change that is not there": {1, 1},
		"more than all changes":      join([]byte{1}, number(api.MaxOops+1), tooMany),
		"the most changes":           join([]byte{1}, number(math.MaxUint64)),
		"2^63 changes":               join([]byte{1}, number(1<<63)),
		"oop 0":                      {1, 1, 0, 1},
		"an oop beyond the last":     join([]byte{1, 1}, number(api.MaxOops+1), []byte{1}),
		"an oop of too many bytes":   {1, 1, 0x81, 0, 1},
		"an oop and no more":         {1, 1, 1},
		"neither gone nor there":     {1, 1, 1, 2},
		"gone by another byte":       {1, 1, 1, 255},
		"neither, and an object":     {1, 1, 1, 2, 1, 0, 0},
		"gone, and an object":        {1, 1, 1, 1, 1, 0, 0},
		"there, and no object":       {1, 1, 1, 0},
		"twice the same":             {1, 2, 3, 1, 3, 1},
		"falling":                    {1, 2, 3, 1, 2, 1},
		"a byte behind":              {1, 0, 0},
		"a change behind":            {1, 1, 3, 1, 4, 1},
	}
	for name, b := range wrongBytes() {
		if len(b) > 0 {
			rows["an object of "+name] = join([]byte{1, 2, 1, 0}, b, []byte{9, 1})
			rows["a last object of "+name] = join([]byte{1, 1, 1, 0}, b)
		}
	}
	for name, b := range rows {
		if r, err := value.GetRecord(b); err != api.ErrForm || r.Commit != 0 || len(r.Changes) != 0 {
			t.Errorf("GetRecord of %s: %v, %d", name, r, err)
		}
	}
	for i, r := range records() {
		b := writtenRecord(r)
		for _, size := range []int{0, 1, 2, 3, len(b) / 2, len(b) - 1} {
			if got, err := value.GetRecord(b[:min(size, len(b)-1)]); err != api.ErrForm || got.Commit != 0 || len(got.Changes) != 0 {
				t.Errorf("GetRecord of record %d's first %d bytes: %d", i, size, err)
			}
		}
	}
}

// noise is bytes that are always the same ones, most of them small, so that much of it can be read.
func noise(n int, seed uint32) []byte {
	out := make([]byte, n)
	for i := range out {
		seed = seed*1664525 + 1013904223
		out[i] = byte(seed >> 24)
		if seed>>20&15 != 0 {
			out[i] %= 6
		}
	}
	return out
}

// readsOnlyItself holds Get and GetRecord against what is written.
func readsOnlyItself(t *testing.T, b []byte) {
	t.Helper()
	o, err := value.Get(b)
	if err == api.OK {
		if again, err := value.Put(o); err != api.OK || !bytes.Equal(again, b) {
			t.Fatalf("Put(Get(%x)) = %x, %d", b, again, err)
		}
	} else if err != api.ErrForm || !isNoObj(o) {
		t.Fatalf("Get(%x) = %v, %d", b, o, err)
	}
	r, err := value.GetRecord(b)
	if err == api.OK {
		if again, err := value.PutRecord(r); err != api.OK || !bytes.Equal(again, b) {
			t.Fatalf("PutRecord(GetRecord(%x)) = %x, %d", b, again, err)
		}
	} else if err != api.ErrForm || r.Commit != 0 || len(r.Changes) != 0 {
		t.Fatalf("GetRecord(%x) = %v, %d", b, r, err)
	}
}

// P5.3, P6, P7: whatever the bytes are, the call ends, and what is read is what is written.
func TestAnyBytesAreAnswered(t *testing.T) {
	for seed := range uint32(60000) {
		readsOnlyItself(t, noise(int(seed%12), seed))
	}
	for seed := range uint32(2000) {
		readsOnlyItself(t, noise(int(seed), seed))
	}
	o := api.Obj{Class: 300, Slots: []api.Val{{}, {K: api.Int, N: -api.Small}, {K: api.Ref, N: 200}, {K: api.True}, {K: api.Int, N: 64}}, Bytes: []byte("abc")}
	r := value.Record{Commit: 9, Changes: []value.Change{{Oop: 3, Gone: true}, {Oop: 130, Obj: o}, {Oop: 131, Gone: true}}}
	for _, b := range [][]byte{written(o), writtenRecord(r)} {
		for i := range b {
			for c := range 256 {
				other := slices.Clone(b)
				other[i] = byte(c)
				readsOnlyItself(t, other)
				readsOnlyItself(t, slices.Insert(slices.Clone(b), i, byte(c)))
			}
			readsOnlyItself(t, slices.Delete(slices.Clone(b), i, i+1))
		}
	}
}

// P5.4
func TestOtherObjectsHaveOtherBytes(t *testing.T) {
	seen := map[string]api.Obj{}
	list := rightObjs()
	kept := []api.Val{{}, {K: api.False}, {K: api.True}, {K: api.Int}, {K: api.Int, N: 1}, {K: api.Int, N: -1}, {K: api.Ref, N: 1}, {K: api.Ref, N: 2}}
	for _, class := range []int64{1, 2, 3, 4} {
		for _, text := range []string{"", "\x00", "\x01", "\x01\x00", "\x00\x00"} {
			for _, a := range kept {
				for _, b := range kept {
					list = append(list, api.Obj{Class: class, Slots: []api.Val{a, b}, Bytes: []byte(text)}, api.Obj{Class: class, Slots: []api.Val{a, b, a}, Bytes: []byte(text)})
				}
			}
		}
	}
	for _, o := range list {
		b, _ := value.Put(o)
		if other, ok := seen[string(b)]; ok && !value.Same(o, other) {
			t.Errorf("%v and %v have the bytes %x", o, other, b)
		}
		seen[string(b)] = o
	}
	if len(seen) != len(list) {
		t.Errorf("%d objects, no two alike, have %d bytes", len(list), len(seen))
	}
}

// The rules 4 and 5: no argument is changed or kept, and no answer shares memory with another one.
func TestAnswersAreNewMemory(t *testing.T) {
	o := api.Obj{Class: 7, Slots: []api.Val{{K: api.Int, N: 5}, {K: api.Ref, N: 300}}, Bytes: []byte("abc")}
	r := value.Record{Commit: 3, Changes: []value.Change{{Oop: 1, Obj: o}, {Oop: 2, Obj: value.Copy(o)}, {Oop: 5, Gone: true}}}
	want, wantRecord := written(o), writtenRecord(r)
	b, _ := value.Put(o)
	clear(b)
	_ = append(b, 1, 2, 3)
	b, _ = value.PutRecord(r)
	clear(b)
	_ = append(b, 1, 2, 3)
	if !bytes.Equal(written(o), want) || !bytes.Equal(writtenRecord(r), wantRecord) {
		t.Error("Put changes its argument")
	}

	in := append(slices.Clone(want), "behind"...)
	first, _ := value.Get(in[:len(want)])
	second, _ := value.Get(in[:len(want)])
	spoil(first)
	if !bytes.Equal(in, append(slices.Clone(want), "behind"...)) {
		t.Error("Get's answer shares memory with its argument")
	}
	clear(in)
	if !value.Same(second, o) {
		t.Error("Get's answer hangs on memory of others")
	}

	in = append(slices.Clone(wantRecord), "behind"...)
	got, _ := value.GetRecord(in[:len(wantRecord)])
	again, _ := value.GetRecord(in[:len(wantRecord)])
	spoil(got.Changes[0].Obj)
	_ = append(got.Changes, value.Change{Oop: 9})
	if !value.Same(got.Changes[1].Obj, o) || !bytes.Equal(in, append(slices.Clone(wantRecord), "behind"...)) {
		t.Error("GetRecord's answer shares memory")
	}
	clear(in)
	if !sameRecord(again, r) {
		t.Error("GetRecord's answer hangs on memory of others")
	}
}
