package store_test

import (
	"bytes"
	"encoding/binary"
	"hash/crc32"
	"math/rand"
	"slices"
	"testing"

	"lapidary/api"
	"lapidary/disk"
	"lapidary/ring"
	"lapidary/store"
	"lapidary/table"
	"lapidary/value"
)

// objects of which no two are alike
var (
	a = api.Obj{Class: 1}
	b = api.Obj{Class: 2, Slots: []api.Val{{K: api.Int, N: -7}, {K: api.Ref, N: api.MaxOops}}, Bytes: []byte("b")}
	c = api.Obj{Class: api.MaxOops, Bytes: []byte("c")}
)

func put(oop int64, o api.Obj) value.Change { return value.Change{Oop: oop, Obj: o} }

func gone(oop int64) value.Change { return value.Change{Oop: oop, Gone: true} }

func rec(commit int64, changes ...value.Change) value.Record {
	return value.Record{Commit: commit, Changes: changes}
}

// text is an object of so many bytes.
func text(n int) api.Obj {
	return api.Obj{Class: 1, Bytes: bytes.Repeat([]byte{'x'}, n)}
}

// greatest is an object that takes as many bytes as one can.
func greatest() api.Obj {
	o := text(api.MaxBytes)
	o.Class = api.MaxOops
	for range api.MaxSlots {
		o.Slots = append(o.Slots, api.Val{K: api.Int, N: -api.Small})
	}
	return o
}

// wrong are records that can not be.
func wrong() []value.Record {
	many := rec(1)
	for oop := range int64(api.MaxOops + 1) {
		many.Changes = append(many.Changes, gone(oop+1))
	}
	falls := rec(1) // only from one piece to the next: three go into each
	for _, oop := range []int64{20, 21, 22, 23, 24, 25, 10} {
		falls.Changes = append(falls.Changes, put(oop, text(1000)))
	}
	return []value.Record{
		falls,
		{}, rec(0), rec(-1), rec(-1 << 63), rec(1<<63 - 1), rec(api.MaxCommit + 1), rec(0, put(1, a)),
		rec(1, put(0, a)), rec(1, put(-1, a)), rec(1, put(api.MaxOops+1, a)), rec(1, gone(1<<63-1)), rec(1, gone(-1<<63)),
		rec(1, put(2, a), put(1, a)), rec(1, put(2, a), gone(2)), many,
		rec(1, value.Change{Oop: 1, Gone: true, Obj: a}), rec(1, put(1, api.Obj{})),
		rec(1, put(1, text(api.MaxBytes+1))), rec(1, put(1, api.Obj{Class: 1, Slots: make([]api.Val, api.MaxSlots+1)})),
		rec(1, put(1, api.Obj{Class: 1, Slots: []api.Val{{K: api.Block}}})),
	}
}

// written is what PutRecord makes of a record that it takes.
func written(t *testing.T, r value.Record) []byte {
	t.Helper()
	b, err := value.PutRecord(r)
	if err != api.OK {
		t.Fatalf("PutRecord = %d", err)
	}
	return b
}

// line is a record of a log.
func line(t *testing.T, kind byte, r value.Record) []byte {
	t.Helper()
	return append([]byte{kind}, written(t, r)...)
}

// grown is a record that PutRecord makes just so many bytes of, by an object more at an oop above all others.
func grown(t *testing.T, size int, r value.Record, oop int64) value.Record {
	t.Helper()
	for n := range api.MaxBytes + 1 {
		out := rec(r.Commit, append(slices.Clone(r.Changes), put(oop, text(n)))...)
		if len(written(t, out)) == size {
			return out
		}
	}
	t.Fatalf("no object makes it %d bytes", size)
	return value.Record{}
}

// filled is a record with texts from an oop on, of which PutRecord makes just so many bytes.
func filled(t *testing.T, size int, commit, oop int64) value.Record {
	t.Helper()
	r := rec(commit)
	for ; size-len(written(t, r)) > 1800; oop++ {
		r.Changes = append(r.Changes, put(oop, text(900)))
	}
	if rest := size - len(written(t, r)); rest > 1000 {
		r.Changes = append(r.Changes, put(oop, text(rest/2)))
		oop++
	}
	return grown(t, size, r, oop)
}

func device(t *testing.T, sectors int) *disk.Disk {
	t.Helper()
	d, err := disk.New(sectors)
	if err != api.OK {
		t.Fatalf("New(%d) = %d", sectors, err)
	}
	return d
}

// formatted is a device with a first commit.
func formatted(t *testing.T, sectors int, first value.Record) *disk.Disk {
	t.Helper()
	d := device(t, sectors)
	if err := store.Format(d, first); err != api.OK {
		t.Fatalf("Format = %d", err)
	}
	return d
}

func opened(t *testing.T, d *disk.Disk) *store.Store {
	t.Helper()
	s, err := store.Open(d)
	if err != api.OK || s == nil {
		t.Fatalf("Open = %v, %d", s, err)
	}
	return s
}

// fresh is a store with a first commit, and its device.
func fresh(t *testing.T, sectors int, first value.Record) (*disk.Disk, *store.Store) {
	t.Helper()
	d := formatted(t, sectors, first)
	return d, opened(t, d)
}

// logged is a device whose log has just these records.
func logged(t *testing.T, records ...[]byte) *disk.Disk {
	t.Helper()
	d := device(t, 500)
	if err := ring.Format(d); err != api.OK {
		t.Fatalf("Format = %d", err)
	}
	l, _, err := ring.Open(d)
	if err != api.OK {
		t.Fatalf("Open = %d", err)
	}
	for _, b := range records {
		if err := l.Append(b); err != api.OK {
			t.Fatalf("Append = %d", err)
		}
	}
	return d
}

func contents(t *testing.T, d *disk.Disk) []byte {
	t.Helper()
	b, err := d.Read(0, d.Size())
	if err != api.OK {
		t.Fatalf("Read = %d", err)
	}
	return b
}

// refused asks that Open answers an error alone, and changes nothing of the device.
func refused(t *testing.T, d *disk.Disk, want api.Errno) {
	t.Helper()
	now, pending, safe := contents(t, d), d.Pending(), d.Copy()
	if s, err := store.Open(d); s != nil || err != want {
		t.Errorf("Open = %v, %d, want %d", s, err, want)
	}
	if !bytes.Equal(contents(t, d), now) || d.Pending() != pending {
		t.Error("Open changed a device that it refused")
	}
	safe.Crash(nil)
	behind := d.Copy()
	behind.Crash(nil)
	if !bytes.Equal(contents(t, behind), contents(t, safe)) {
		t.Error("Open made writes safe of a device that it refused")
	}
}

func commits(t *testing.T, s *store.Store, r value.Record, want api.Errno) {
	t.Helper()
	if err := s.Commit(r); err != want {
		t.Fatalf("Commit of %d with %d changes = %d, want %d", r.Commit, len(r.Changes), err, want)
	}
}

func checkpoints(t *testing.T, s *store.Store, want api.Errno) {
	t.Helper()
	if err := s.Checkpoint(); err != want {
		t.Fatalf("Checkpoint = %d, want %d", err, want)
	}
}

// sameRecord tells whether two records are alike in all.
func sameRecord(r, s value.Record) bool {
	return r.Commit == s.Commit && slices.EqualFunc(r.Changes, s.Changes, func(x, y value.Change) bool {
		return x.Oop == y.Oop && x.Gone == y.Gone && value.Same(x.Obj, y.Obj)
	})
}

// sameTable tells whether two tables answer alike, of up to the last 20 commits.
func sameTable(x, y *table.Table) bool {
	if x.First() != y.First() || x.Last() != y.Last() {
		return false
	}
	for commit := max(x.First(), x.Last()-20); commit <= x.Last(); commit++ {
		if !slices.Equal(x.Oops(commit), y.Oops(commit)) {
			return false
		}
		for _, oop := range x.Oops(commit) {
			o, _ := x.At(commit, oop)
			p, _ := y.At(commit, oop)
			if !value.Same(o, p) || x.Changed(oop) != y.Changed(oop) {
				return false
			}
		}
	}
	return slices.Equal(x.Free(api.MaxOops), y.Free(api.MaxOops))
}

// has asks that a store has just these objects behind its last commit.
func has(t *testing.T, s *store.Store, want value.Record) {
	t.Helper()
	if all := s.Table().All(); !sameRecord(all, want) || s.Last() != want.Commit {
		t.Errorf("behind %d there is %v, want %v", s.Last(), all, want)
	}
}

// tells asks that a copy of the device, opened, has just these objects behind its last commit.
func tells(t *testing.T, d *disk.Disk, want value.Record) {
	t.Helper()
	has(t, opened(t, d.Copy()), want)
}

// kept asks that a call that is refused leaves a store and its device as they are.
func kept(t *testing.T, d *disk.Disk, s *store.Store, call func()) {
	t.Helper()
	before, last, room := s.Table(), s.Last(), s.Room()
	bytesAhead, pending := contents(t, d), d.Pending()
	call()
	if !sameTable(s.Table(), before) || s.Last() != last || s.Room() != room {
		t.Error("a call that was refused changed the store")
	}
	if !bytes.Equal(contents(t, d), bytesAhead) || d.Pending() != pending {
		t.Error("a call that was refused changed the device")
	}
}

// head is a head's sector of a log, laid by other means than the program's.
func head(life, first, since int64) []byte {
	six := func(n int64) []byte { return binary.BigEndian.AppendUint64(nil, uint64(n))[2:] }
	b := slices.Concat([]byte("LAPIDARY"), six(life), []byte{0}, six(first), six(since))
	b = binary.BigEndian.AppendUint32(b, crc32.ChecksumIEEE(b))
	return append(b, make([]byte, api.Sector-len(b))...)
}

// someObj is an object with a few slots and bytes, most of them small.
func someObj(r *rand.Rand) api.Obj {
	o := api.Obj{Class: 1 + r.Int63n(api.MaxOops), Bytes: make([]byte, r.Intn(20))}
	for range r.Intn(5) {
		o.Slots = append(o.Slots, api.Val{K: api.Int, N: r.Int63n(1<<40) - 1<<39})
	}
	if r.Intn(10) == 0 {
		o.Bytes = make([]byte, r.Intn(300))
	}
	r.Read(o.Bytes)
	return o
}

// someChanges are changes of oops up to one.
func someChanges(r *rand.Rand, oops int64) []value.Change {
	var out []value.Change
	for oop := int64(1); oop <= oops; oop++ {
		switch r.Intn(8) {
		case 0:
			out = append(out, gone(oop))
		case 1, 2:
			out = append(out, put(oop, someObj(r)))
		}
	}
	return out
}
