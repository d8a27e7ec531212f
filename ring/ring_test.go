package ring_test

import (
	"bytes"
	"math"
	"slices"
	"testing"

	"lapidary/api"
	"lapidary/ring"
)

const most = api.MaxCommit

// P4.1
func TestSectors(t *testing.T) {
	rows := [][2]int{
		{1, 1}, {2, 1}, {111, 1}, {112, 1}, {113, 2}, {224, 2}, {225, 3}, {336, 3},
		{59920, 535}, {59921, 536}, {60000, 536},
		{0, 0}, {-1, 0}, {60001, 0}, {math.MinInt, 0}, {math.MaxInt, 0},
	}
	for _, r := range rows {
		if got := ring.Sectors(r[0]); got != r[1] {
			t.Errorf("Sectors(%d) = %d, not %d", r[0], got, r[1])
		}
	}
}

// P4.1
func TestFormatWritesTheHeadsAlone(t *testing.T) {
	for _, n := range []int{4, 5, 6, 12} {
		d := device(t, n)
		rest := noise((n-2)*api.Sector, 1)
		put(t, d, 0, noise(2*api.Sector, 2))
		put(t, d, 2, rest)
		if err := ring.Format(d); err != api.OK || d.Pending() != 0 {
			t.Fatalf("Format = %d, %d pending", err, d.Pending())
		}
		stands(t, d, 0, make([]byte, api.Sector))
		stands(t, d, 1, head{1, 0, 1, 1}.bytes())
		stands(t, d, 2, rest)
	}
}

// P4.1
func TestFormatRefuses(t *testing.T) {
	if err := ring.Format(nil); err != api.ErrNil {
		t.Errorf("Format(nil) = %d", err)
	}
	for n := 1; n <= 3; n++ {
		d := device(t, n)
		if err := ring.Format(d); err != api.ErrSize || d.Pending() != 0 {
			t.Errorf("%d sectors: Format = %d", n, err)
		}
		d.Fail(1)
		d.Write(0, make([]byte, api.Sector))
		if err := ring.Format(d); err != api.ErrSize {
			t.Errorf("%d sectors, dead: Format = %d", n, err)
		}
	}
	for n := 1; n <= 2; n++ { // both sectors are one Write
		d := device(t, 4)
		d.Fail(n)
		if err := ring.Format(d); err != api.ErrDead || d.Pending() != n-1 {
			t.Errorf("Fail(%d): Format = %d, %d pending", n, err, d.Pending())
		}
		if err := ring.Format(d); err != api.ErrDead {
			t.Errorf("dead: Format = %d", err)
		}
	}
	d := device(t, 4)
	d.Fail(3)
	if err := ring.Format(d); err != api.OK {
		t.Errorf("Fail(3): Format = %d", err)
	}
}

// P4.2
func TestOpenWritesTheHeadOfTheNextLife(t *testing.T) {
	rows := []head{
		{1, 0, 1, 1}, {2, 1, 7, 2}, {7, 0, most, 3}, {8, 1, 9, 9},
		{most - 1, 1, most, most}, {255, 0, 256, 65536}, {1<<40 - 2, 0, 1 << 32, 1 << 24},
	}
	for _, h := range rows {
		d := have(t, 9, h, nil)
		l, r := opened(t, d)
		if len(r) != 0 || d.Pending() != 0 {
			t.Errorf("%v: %q, %d pending", h, r, d.Pending())
		}
		at(t, l, 3, h.life+1, h.first)
		next := head{h.life + 1, h.half, h.first, h.since}
		stands(t, d, int(h.life%2), h.bytes())
		stands(t, d, int(next.life%2), next.bytes())
		stands(t, d, 2, make([]byte, 7*api.Sector))
	}
}

// P4.2
func TestOpenRefusesDevices(t *testing.T) {
	if l, r, err := ring.Open(nil); l != nil || r != nil || err != api.ErrNil {
		t.Errorf("Open(nil) = %v, %v, %d", l, r, err)
	}
	for n := 1; n <= 3; n++ {
		d := device(t, n)
		put(t, d, 0, head{2, 0, 1, 1}.bytes())
		refused(t, d, api.ErrSize)
		d.Fail(1)
		d.Write(0, make([]byte, api.Sector))
		refused(t, d, api.ErrSize)
	}
	d := device(t, 4)
	refused(t, d, api.ErrForm)
	d.Fail(1)
	d.Write(0, make([]byte, api.Sector))
	refused(t, d, api.ErrDead)
	d = have(t, 4, head{1, 0, 1, 1}, nil)
	d.Fail(1)
	refused(t, d, api.ErrDead)
	tells(t, d)
}

// P4.2: a head can be only if its sector is just that.
func TestOpenRefusesHeadsThatCanNotBe(t *testing.T) {
	for i := range api.Sector {
		for _, flip := range []byte{1, 0x80} {
			b := head{5, 1, 3, 2}.bytes()
			b[i] ^= flip
			d := device(t, 6)
			put(t, d, 1, b)
			refused(t, d, api.ErrForm)
		}
	}
	rows := []head{
		{0, 0, 1, 1}, {1, 0, 0, 1}, {1, 0, 1, 0},
		{most + 1, 0, 1, 1}, {1, 0, most + 1, 1}, {1, 0, 1, most + 1},
		{1 << 47, 0, 1, 1}, {1, 0, 1<<48 - 1, 1},
		{1, 2, 1, 1}, {1, 128, 1, 1}, {1, 255, 1, 1},
	}
	for _, h := range rows {
		for place := range 2 {
			d := device(t, 6)
			put(t, d, place, h.bytes())
			refused(t, d, api.ErrForm)
		}
	}
}

// P4.2: of two heads that can be the one of the greater life is the head.
func TestOpenTakesTheHeadOfTheGreaterLife(t *testing.T) {
	none := head{9, 3, 9, 9} // can not be, for its half
	rows := []struct {
		zero, one head
		want      head
	}{
		{head{4, 1, 10, 2}, head{3, 0, 20, 2}, head{4, 1, 10, 2}},
		{head{4, 1, 10, 2}, head{5, 0, 20, 2}, head{5, 0, 20, 2}},
		{head{4, 1, 10, 2}, none, head{4, 1, 10, 2}},
		{none, head{3, 0, 20, 2}, head{3, 0, 20, 2}},
		{head{4, 1, 10, 2}, head{4, 0, 20, 2}, head{4, 1, 10, 2}},
		{head{3, 1, 10, 2}, head{4, 0, 20, 2}, head{4, 0, 20, 2}},
		{head{256, 0, 1, 2}, head{255, 1, 2, 2}, head{256, 0, 1, 2}},
	}
	for _, r := range rows {
		d := device(t, 8)
		put(t, d, 0, r.zero.bytes())
		put(t, d, 1, r.one.bytes())
		l, _ := opened(t, d)
		at(t, l, 3, r.want.life+1, r.want.first)
		next := head{r.want.life + 1, r.want.half, r.want.first, r.want.since}
		stands(t, d, int(next.life%2), next.bytes())
	}
}

// P4.2
func TestOpenIsFullAtTheGreatestNumbers(t *testing.T) {
	refused(t, have(t, 6, head{most, 0, 1, 1}, nil), api.ErrFull)
	last := lay(pieces(5, most, []byte("x"))...)
	refused(t, have(t, 6, head{5, 0, most, 1}, last), api.ErrFull)
	two := slices.Concat(lay(pieces(5, most-1, []byte("x"))...), last)
	refused(t, have(t, 6, head{5, 0, most - 1, 1}, two), api.ErrFull)

	d := have(t, 6, head{most - 1, 0, most - 1, 1}, lay(pieces(5, most-1, []byte("x"))...))
	l, r := opened(t, d)
	if !same(r, [][]byte{[]byte("x")}) {
		t.Errorf("Open tells %q", r)
	}
	at(t, l, 1, most, most)
	appends(t, l, []byte("y"), api.ErrFull)
	rewrites(t, l, nil, api.ErrFull)
	refused(t, d, api.ErrFull)
	// A device that fails is told only if nothing is told ahead of it.
	d = have(t, 6, head{most, 0, 1, 1}, nil)
	d.Fail(1)
	refused(t, d, api.ErrFull)
}

// P4.3
func TestAppendWritesOneRecordBehindAllOthers(t *testing.T) {
	for _, n := range []int{12, 13} {
		d, l := fresh(t, n)
		long := noise(200, 1)
		appends(t, l, []byte("a"), api.OK)
		at(t, l, 4, 2, 2)
		appends(t, l, long, api.OK)
		at(t, l, 2, 2, 3)
		if d.Pending() != 0 {
			t.Errorf("%d writes are not safe", d.Pending())
		}
		want := slices.Concat(lay(pieces(2, 1, []byte("a"))...), lay(pieces(2, 2, long)...))
		stands(t, d, 2, want)
		stands(t, d, 5, make([]byte, (n-5)*api.Sector))
		l, r := opened(t, d)
		if !same(r, [][]byte{[]byte("a"), long}) {
			t.Errorf("Open tells %q", r)
		}
		at(t, l, 2, 3, 3)
		appends(t, l, long[:113], api.OK)
		at(t, l, 0, 3, 4)
		stands(t, d, 5, lay(pieces(3, 3, long[:113])...))
		stands(t, d, 7, make([]byte, (n-7)*api.Sector))
		tells(t, d, []byte("a"), long, long[:113])
	}
}

// P4.3
func TestAppendTakesRecordsOfAnyLength(t *testing.T) {
	for _, n := range []int{1, 111, 112, 113, 223, 224, 225, 1000, 59919, 59920, 59921, 59999, 60000} {
		d, l := fresh(t, 2+2*540)
		b := noise(n, uint32(n))
		appends(t, l, b, api.OK)
		appends(t, l, []byte{0}, api.OK)
		at(t, l, 540-ring.Sectors(n)-1, 2, 3)
		tells(t, d, b, []byte{0})
	}
}

// P4.3
func TestAppendRefuses(t *testing.T) {
	d, l := fresh(t, 12)
	appends(t, l, nil, api.ErrSize)
	appends(t, l, make([]byte, 60001), api.ErrSize)
	appends(t, l, make([]byte, 60000), api.ErrFull)
	appends(t, l, make([]byte, 5*112+1), api.ErrFull)
	at(t, l, 5, 2, 1)
	tells(t, d)
	appends(t, l, make([]byte, 5*112), api.OK) // the last of the room
	at(t, l, 0, 2, 2)
	appends(t, l, []byte("a"), api.ErrFull)
	appends(t, l, nil, api.ErrSize)
	tells(t, d, make([]byte, 5*112))
	var none *ring.Log
	appends(t, none, nil, api.ErrNil)
	appends(t, none, []byte("a"), api.ErrNil)
}

// P4.3: behind ErrDead a log answers no call any more; other errors leave it as it is.
func TestAppendOnADeviceThatDies(t *testing.T) {
	for n := 1; n <= 3; n++ {
		d, l := fresh(t, 12)
		appends(t, l, []byte("a"), api.OK)
		d.Fail(n)
		appends(t, l, nil, api.ErrSize)
		appends(t, l, make([]byte, 600), api.ErrFull)
		appends(t, l, make([]byte, 300), api.ErrDead)
		if d.Pending() != n-1 { // a record is one Write of all its sectors
			t.Errorf("%d writes were done, not %d", d.Pending(), n-1)
		}
		at(t, l, 4, 2, 2)
		for range 2 {
			appends(t, l, nil, api.ErrState)
			appends(t, l, make([]byte, 600), api.ErrState)
			appends(t, l, []byte("b"), api.ErrState)
			rewrites(t, l, nil, api.ErrState)
			rewrites(t, l, [][]byte{nil}, api.ErrState)
			d.Crash(nil) // of the device alone: this log does not know what stands there
		}
		if d.Pending() != 0 {
			t.Error("a log that failed has written")
		}
		tells(t, d, []byte("a"))
	}
}

// P4.3: a call that is refused is none that ended with ErrDead.
func TestRefusedCallsLeaveALogAsItIs(t *testing.T) {
	d, l := fresh(t, 12)
	d.Fail(1)
	d.Write(11, make([]byte, api.Sector))
	appends(t, l, nil, api.ErrSize)
	rewrites(t, l, [][]byte{nil}, api.ErrSize)
	appends(t, l, make([]byte, 600), api.ErrFull)
	rewrites(t, l, [][]byte{make([]byte, 600)}, api.ErrFull)
	d.Crash(nil)
	appends(t, l, []byte("a"), api.OK)
	tells(t, d, []byte("a"))
}

// P4.3
func TestRewriteTakesTheOtherHalf(t *testing.T) {
	d, l := fresh(t, 13)
	appends(t, l, []byte("old"), api.OK)
	appends(t, l, []byte("older"), api.OK)
	before := contents(t, d)
	b := [][]byte{noise(113, 1), []byte("x"), noise(224, 2)}
	rewrites(t, l, b, api.OK)
	if d.Pending() != 0 {
		t.Errorf("%d writes are not safe", d.Pending())
	}
	at(t, l, 0, 3, 6)
	stands(t, d, 0, before[:api.Sector]) // the head of the life ahead of it
	stands(t, d, 1, head{3, 1, 3, 3}.bytes())
	stands(t, d, 2, before[2*api.Sector:7*api.Sector])
	stands(t, d, 7, slices.Concat(lay(pieces(3, 3, b[0])...), lay(pieces(3, 4, b[1])...), lay(pieces(3, 5, b[2])...)))
	stands(t, d, 12, make([]byte, api.Sector))
	tells(t, d, b...)
	appends(t, l, []byte("y"), api.ErrFull)

	rewrites(t, l, [][]byte{[]byte("z")}, api.OK) // and back
	at(t, l, 4, 4, 7)
	stands(t, d, 0, head{4, 0, 6, 4}.bytes())
	stands(t, d, 2, lay(pieces(4, 6, []byte("z"))...))
	appends(t, l, []byte("y"), api.OK)
	at(t, l, 3, 4, 8)
	stands(t, d, 3, lay(pieces(4, 7, []byte("y"))...))
	l, r := opened(t, d)
	if !same(r, [][]byte{[]byte("z"), []byte("y")}) {
		t.Errorf("Open tells %q", r)
	}
	at(t, l, 3, 5, 8)
	stands(t, d, 1, head{5, 0, 6, 4}.bytes())
}

// P4.3
func TestRewriteOfNoRecords(t *testing.T) {
	d, l := fresh(t, 8)
	appends(t, l, []byte("old"), api.OK)
	rewrites(t, l, nil, api.OK)
	at(t, l, 3, 3, 2)
	stands(t, d, 1, head{3, 1, 2, 3}.bytes())
	tells(t, d)
	appends(t, l, []byte("new"), api.OK)
	tells(t, d, []byte("new"))
	rewrites(t, l, [][]byte{}, api.OK)
	tells(t, d)
}

// P4.3
func TestRewriteRefuses(t *testing.T) {
	d, l := fresh(t, 12)
	appends(t, l, []byte("a"), api.OK)
	whole := contents(t, d)
	one := []byte("x")
	rewrites(t, l, [][]byte{one, nil}, api.ErrSize)
	rewrites(t, l, [][]byte{one, {}, one}, api.ErrSize)
	rewrites(t, l, [][]byte{make([]byte, 60001)}, api.ErrSize)
	rewrites(t, l, slices.Repeat([][]byte{one}, 4097), api.ErrSize)
	rewrites(t, l, slices.Repeat([][]byte{one}, 4096), api.ErrFull)
	rewrites(t, l, [][]byte{make([]byte, 60000), nil}, api.ErrSize)
	rewrites(t, l, slices.Repeat([][]byte{one}, 6), api.ErrFull)
	rewrites(t, l, [][]byte{make([]byte, 448), make([]byte, 113)}, api.ErrFull)
	rewrites(t, l, [][]byte{make([]byte, 561)}, api.ErrFull)
	if !bytes.Equal(contents(t, d), whole) || d.Pending() != 0 {
		t.Error("a Rewrite that was refused wrote")
	}
	at(t, l, 4, 2, 2)
	rewrites(t, l, slices.Repeat([][]byte{one}, 5), api.OK)
	at(t, l, 0, 3, 7)
	var none *ring.Log
	rewrites(t, none, nil, api.ErrNil)
	rewrites(t, none, [][]byte{nil}, api.ErrNil)
}

// P4.3
func TestRewriteIsFullAtTheGreatestNumbers(t *testing.T) {
	one := []byte("x")
	d := have(t, 12, head{most - 1, 0, 1, 1}, nil)
	l, _ := opened(t, d)
	rewrites(t, l, nil, api.ErrFull)
	rewrites(t, l, [][]byte{nil}, api.ErrSize)
	appends(t, l, one, api.OK)
	at(t, l, 4, most, 2)

	d = have(t, 12, head{most - 2, 0, 1, 1}, nil)
	l, _ = opened(t, d)
	rewrites(t, l, nil, api.OK)
	at(t, l, 5, most, 1)

	// Seqs are used up to the one below the greatest, as the next one must be too: else the device could not be opened any more.
	d = have(t, 12, head{5, 0, most - 2, 1}, nil)
	l, _ = opened(t, d)
	rewrites(t, l, slices.Repeat([][]byte{one}, 4), api.ErrFull)
	rewrites(t, l, slices.Repeat([][]byte{one}, 3), api.ErrFull)
	rewrites(t, l, slices.Repeat([][]byte{one}, 2), api.OK)
	at(t, l, 3, 7, most)
	appends(t, l, one, api.ErrFull)
	rewrites(t, l, [][]byte{one}, api.ErrFull)
	tells(t, d, one, one)
	rewrites(t, l, nil, api.OK)
	at(t, l, 5, 8, most)
	tells(t, d)
}

// P4.3: the records are written, and made safe together; the head is written behind that.
func TestRewriteOnADeviceThatDies(t *testing.T) {
	b := [][]byte{make([]byte, 113), []byte("x")} // three sectors, and the head
	pending := []int{0, 1, 2, 0}
	for i, want := range pending {
		d, l := fresh(t, 12)
		appends(t, l, []byte("a"), api.OK)
		d.Fail(i + 1)
		rewrites(t, l, b, api.ErrDead)
		if d.Pending() != want {
			t.Errorf("Fail(%d): %d writes are not safe, not %d", i+1, d.Pending(), want)
		}
		at(t, l, 4, 2, 2)
		rewrites(t, l, b, api.ErrState)
		rewrites(t, l, [][]byte{nil}, api.ErrState)
		appends(t, l, []byte("b"), api.ErrState)
		d.Crash([]bool{true, true, true})
		rewrites(t, l, b, api.ErrState)
		appends(t, l, []byte("b"), api.ErrState)
		tells(t, d, []byte("a"))
	}
	d, l := fresh(t, 12)
	d.Fail(5)
	rewrites(t, l, b, api.OK)
	appends(t, l, []byte("b"), api.ErrDead)
}

// P4.4
func TestALogTellsNothingOfNil(t *testing.T) {
	var l *ring.Log
	at(t, l, 0, 0, 0)
}

// P4.2, P4.3: no call keeps a list or changes it, and no answer shares memory.
func TestNoMemoryIsShared(t *testing.T) {
	d, l := fresh(t, 20)
	a, b := noise(150, 1), noise(112, 2)
	list := [][]byte{a, b}
	rewrites(t, l, list, api.OK)
	appends(t, l, a, api.OK)
	if !same(list, [][]byte{noise(150, 1), noise(112, 2)}) {
		t.Error("a list was changed")
	}
	clear(a)
	clear(b)
	l, r := opened(t, d)
	for i := range r {
		_ = append(r[i], noise(300, 9)...)
	}
	if !same(r, [][]byte{noise(150, 1), noise(112, 2), noise(150, 1)}) {
		t.Error("records share memory")
	}
	for i := range r {
		clear(r[i])
	}
	appends(t, l, []byte("z"), api.OK)
	tells(t, d, noise(150, 1), noise(112, 2), noise(150, 1), []byte("z"))
}
