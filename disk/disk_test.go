package disk_test

import (
	"bytes"
	"math"
	"slices"
	"testing"

	"lapidary/api"
	"lapidary/disk"
)

// fill is n sectors of one byte.
func fill(n int, c byte) []byte {
	return bytes.Repeat([]byte{c}, n*api.Sector)
}

func made(t *testing.T, sectors int) *disk.Disk {
	t.Helper()
	d, err := disk.New(sectors)
	if err != api.OK || d == nil {
		t.Fatalf("New(%d) = %v, %d", sectors, d, err)
	}
	return d
}

func write(t *testing.T, d *disk.Disk, at int, b []byte, want api.Errno) {
	t.Helper()
	if err := d.Write(at, b); err != want {
		t.Errorf("Write(%d, %d bytes) = %d, not %d", at, len(b), err, want)
	}
}

func flush(t *testing.T, d *disk.Disk, want api.Errno) {
	t.Helper()
	if err := d.Flush(); err != want {
		t.Errorf("Flush() = %d, not %d", err, want)
	}
}

// holds asks that sector by sector all bytes are those.
func holds(t *testing.T, d *disk.Disk, want ...byte) {
	t.Helper()
	b, err := d.Read(0, d.Size())
	if err != api.OK {
		t.Fatalf("Read = %d", err)
	}
	for i, c := range want {
		if got := b[i*api.Sector : (i+1)*api.Sector]; !bytes.Equal(got, fill(1, c)) {
			t.Errorf("sector %d is %v, not %d", i, got, c)
		}
	}
}

func pending(t *testing.T, d *disk.Disk, want int) {
	t.Helper()
	if got := d.Pending(); got != want {
		t.Errorf("Pending() = %d, not %d", got, want)
	}
}

// P3.1
func TestNewTakesFromOneToMaxSectors(t *testing.T) {
	for _, n := range []int{1, 2, 3, 4095, 4096} {
		d := made(t, n)
		if d.Size() != n || d.Pending() != 0 {
			t.Errorf("New(%d) has %d sectors, %d pending", n, d.Size(), d.Pending())
		}
		b, err := d.Read(0, n)
		if err != api.OK || !bytes.Equal(b, fill(n, 0)) {
			t.Errorf("New(%d) is not all 0: %d", n, err)
		}
	}
	for _, n := range []int{0, -1, 4097, math.MinInt, math.MaxInt} {
		if d, err := disk.New(n); d != nil || err != api.ErrArg {
			t.Errorf("New(%d) = %v, %d", n, d, err)
		}
	}
}

// P3.1
func TestReadAnswersJustTheSectorsAskedFor(t *testing.T) {
	d := made(t, 4)
	for i := range 4 {
		write(t, d, i, fill(1, byte(i+1)), api.OK)
	}
	for at := range 5 {
		for n := range 5 - at {
			var want []byte
			for i := range n {
				want = append(want, fill(1, byte(at+i+1))...)
			}
			got, err := d.Read(at, n)
			if err != api.OK || !bytes.Equal(got, want) {
				t.Errorf("Read(%d, %d) = %v, %d", at, n, got, err)
			}
		}
	}
}

// P3.1
func TestReadRefusesPlacesThatAreNotThere(t *testing.T) {
	d := made(t, 4)
	rows := [][2]int{
		{-1, 1}, {-1, 0}, {0, -1}, {4, -1}, {0, 5}, {1, 4}, {3, 2}, {4, 1}, {5, 1},
		{math.MaxInt, 1}, {math.MaxInt, math.MaxInt}, {1, math.MaxInt},
		{math.MinInt, 1}, {math.MinInt, math.MaxInt}, {0, math.MinInt},
	}
	for _, dead := range []bool{false, true} {
		if dead { // a place that is not there is told first
			d.Fail(1)
			write(t, d, 0, fill(1, 1), api.ErrDead)
		}
		for _, r := range rows {
			if b, err := d.Read(r[0], r[1]); b != nil || err != api.ErrRange {
				t.Errorf("Read(%d, %d) = %v, %d", r[0], r[1], b, err)
			}
		}
	}
	for _, r := range [][2]int{{0, 1}, {0, 0}, {4, 0}} {
		if b, err := d.Read(r[0], r[1]); b != nil || err != api.ErrDead {
			t.Errorf("dead: Read(%d, %d) = %v, %d", r[0], r[1], b, err)
		}
	}
	d.Crash(nil)
	// No sectors are asked for, and never are there fewer than these.
	for _, at := range []int{0, 3, 4, 5, math.MaxInt} {
		if b, err := d.Read(at, 0); len(b) != 0 || err != api.OK {
			t.Errorf("Read(%d, 0) = %v, %d", at, b, err)
		}
	}
}

// P3.1, P3.2, P3.3: of no device.
func TestCallsOfNil(t *testing.T) {
	var d *disk.Disk
	if b, err := d.Read(0, 1); b != nil || err != api.ErrNil {
		t.Errorf("Read = %v, %d", b, err)
	}
	if b, err := d.Read(-1, -1); b != nil || err != api.ErrNil {
		t.Errorf("Read = %v, %d", b, err)
	}
	write(t, d, -1, nil, api.ErrNil)
	flush(t, d, api.ErrNil)
	d.Crash([]bool{true})
	d.Fail(1)
	if d.Pending() != 0 || d.Size() != 0 || d.Copy() != nil {
		t.Error("nil has something")
	}
}

// P3.2
func TestWriteWritesEachSectorByItself(t *testing.T) {
	d := made(t, 4)
	write(t, d, 1, slices.Concat(fill(1, 7), fill(1, 8)), api.OK)
	pending(t, d, 2)
	holds(t, d, 0, 7, 8, 0)
	write(t, d, 2, slices.Concat(fill(1, 9), fill(1, 10)), api.OK)
	pending(t, d, 4)
	holds(t, d, 0, 7, 9, 10)
	write(t, d, 0, fill(4, 1), api.OK)
	pending(t, d, 8)
	flush(t, d, api.OK)
	pending(t, d, 0)
	holds(t, d, 1, 1, 1, 1)
	write(t, d, 1, fill(2, 0), api.OK)
	pending(t, d, 2)
	holds(t, d, 1, 0, 0, 1)
	// What stands there already is a write too.
	write(t, d, 0, fill(1, 1), api.OK)
	pending(t, d, 3)
}

// P3.2
func TestWriteRefusesWhatDoesNotFit(t *testing.T) {
	d := made(t, 4)
	write(t, d, 0, fill(4, 5), api.OK)
	flush(t, d, api.OK)
	rows := []struct {
		at, n int
		want  api.Errno
	}{
		{-1, 128, api.ErrRange}, {-1, 0, api.ErrRange}, {math.MinInt, 128, api.ErrRange},
		{4, 128, api.ErrRange}, {3, 256, api.ErrRange}, {0, 640, api.ErrRange},
		{math.MaxInt, 128, api.ErrRange}, {5, 1, api.ErrRange},
		// A part of a sector is a sector that there must be.
		{3, 129, api.ErrRange}, {4, 1, api.ErrRange}, {0, 513, api.ErrRange},
		{0, 0, api.ErrForm}, {4, 0, api.ErrForm}, {math.MaxInt, 0, api.ErrForm},
		{0, 1, api.ErrForm}, {3, 127, api.ErrForm}, {0, 129, api.ErrForm}, {0, 511, api.ErrForm},
	}
	for _, r := range rows {
		write(t, d, r.at, make([]byte, r.n), r.want)
	}
	pending(t, d, 0)
	holds(t, d, 5, 5, 5, 5)
	d.Fail(1)
	for _, r := range rows { // a refused call is no write: none of these fails
		write(t, d, r.at, make([]byte, r.n), r.want)
	}
	write(t, d, 0, fill(1, 6), api.ErrDead)
	for _, r := range rows { // of a dead device too these errors come first
		write(t, d, r.at, make([]byte, r.n), r.want)
	}
	write(t, d, 0, fill(1, 6), api.ErrDead)
	flush(t, d, api.ErrDead)
}

// P3.2: a call keeps no list, and no answer shares memory with the device.
func TestNoMemoryIsShared(t *testing.T) {
	d := made(t, 2)
	b := fill(2, 3)
	write(t, d, 0, b, api.OK)
	if !bytes.Equal(b, fill(2, 3)) {
		t.Error("Write changed its argument")
	}
	clear(b)
	holds(t, d, 3, 3)
	got, _ := d.Read(0, 1)
	clear(got)
	_ = append(got, fill(1, 9)...)
	holds(t, d, 3, 3)
	keep := []bool{true, false}
	d.Crash(keep)
	if !slices.Equal(keep, []bool{true, false}) {
		t.Error("Crash changed its argument")
	}
	holds(t, d, 3, 0)
}

// P3.3
func TestFailStopsTheNthSector(t *testing.T) {
	for n := 1; n <= 6; n++ {
		d := made(t, 6)
		d.Fail(n)
		done := 0
		for at := 0; at < 6; at += 2 { // calls of two sectors: sectors are counted
			want := api.OK
			if done+2 >= n {
				want = api.ErrDead
			}
			write(t, d, at, fill(2, 1), want)
			done = min(done+2, n-1)
			pending(t, d, done)
		}
		flush(t, d, api.ErrDead)
		pending(t, d, n-1)
		if b, err := d.Read(0, 1); b != nil || err != api.ErrDead {
			t.Errorf("Read = %v, %d", b, err)
		}
		if d.Size() != 6 {
			t.Error("Size of a dead device")
		}
		d.Crash(slices.Repeat([]bool{true}, 9))
		pending(t, d, 0)
		want := make([]byte, 6)
		for i := range n - 1 {
			want[i] = 1
		}
		holds(t, d, want...)
		write(t, d, 0, fill(6, 2), api.OK) // and no write fails any more
		flush(t, d, api.OK)
		holds(t, d, 2, 2, 2, 2, 2, 2)
	}
}

// P3.3
func TestFailSaysAnewWhichWriteFails(t *testing.T) {
	for _, n := range []int{0, -1, math.MinInt} {
		d := made(t, 2)
		d.Fail(1)
		d.Fail(n)
		write(t, d, 0, fill(2, 1), api.OK)
	}
	d := made(t, 4)
	d.Fail(1)
	d.Fail(3)
	write(t, d, 0, fill(1, 1), api.OK)
	d.Fail(2) // counted from now on
	flush(t, d, api.OK)
	write(t, d, 0, fill(1, 2), api.OK)
	write(t, d, 1, fill(2, 2), api.ErrDead)
	pending(t, d, 1)
	d.Fail(0) // a device that is dead stays dead, till a crash
	write(t, d, 0, fill(1, 3), api.ErrDead)
	flush(t, d, api.ErrDead)
	d.Fail(5)
	write(t, d, 0, fill(1, 3), api.ErrDead)
	pending(t, d, 1)
	d.Crash(nil)
	holds(t, d, 1, 0, 0, 0)
	write(t, d, 0, fill(4, 3), api.OK)
	d.Fail(math.MaxInt)
	write(t, d, 0, fill(4, 4), api.OK)
	d.Fail(1)
	d.Crash([]bool{true}) // of a device that is not dead: no write fails any more
	holds(t, d, 3, 0, 0, 0)
	write(t, d, 0, fill(4, 5), api.OK)
	flush(t, d, api.OK)
}

// P3.3, the example, and writes of one sector that stay or not.
func TestCrashKeepsWhatItIsTold(t *testing.T) {
	d := made(t, 4)
	write(t, d, 1, fill(2, 7), api.OK)
	d.Crash([]bool{true})
	holds(t, d, 0, 7, 0, 0)
	rows := []struct {
		keep []bool
		want byte
	}{
		{nil, 1}, {[]bool{false}, 1}, {[]bool{true}, 2}, {[]bool{false, true}, 3},
		{[]bool{true, true}, 3}, {[]bool{true, true, true}, 0}, {[]bool{false, false, true}, 0},
		{[]bool{true, false, false, true}, 1},
		// There are four writes: what is said of a fifth one is said of none.
		{[]bool{true, false, false, false, true}, 2}, {[]bool{true, true, true, true, true, true, false}, 1},
	}
	for _, r := range rows {
		d := made(t, 1)
		write(t, d, 0, fill(1, 1), api.OK)
		flush(t, d, api.OK)
		for _, c := range []byte{2, 3, 0, 1} {
			write(t, d, 0, fill(1, c), api.OK)
		}
		d.Crash(r.keep)
		pending(t, d, 0)
		holds(t, d, r.want)
		d.Crash([]bool{true, true, true, true}) // what stands there is safe now
		holds(t, d, r.want)
	}
}

// P3.3
func TestCopyIsAnotherOneAsItIs(t *testing.T) {
	d := made(t, 3)
	write(t, d, 0, fill(1, 1), api.OK)
	flush(t, d, api.OK)
	write(t, d, 1, fill(1, 2), api.OK)
	d.Fail(2)
	c := d.Copy()
	if c.Size() != 3 || c.Pending() != 1 {
		t.Errorf("Copy has %d sectors, %d pending", c.Size(), c.Pending())
	}
	write(t, d, 2, fill(1, 3), api.OK)
	write(t, d, 0, fill(1, 4), api.ErrDead)
	holds(t, c, 1, 2, 0)
	pending(t, c, 1)
	dead := d.Copy()
	flush(t, dead, api.ErrDead)
	pending(t, dead, 2)
	dead.Crash([]bool{true, true})
	holds(t, dead, 1, 2, 3)
	write(t, c, 0, fill(1, 5), api.OK)
	write(t, c, 0, fill(1, 6), api.ErrDead) // the failure to come was copied too
	c.Crash([]bool{false, true})
	holds(t, c, 5, 0, 0)
	flush(t, d, api.ErrDead)
	d.Crash([]bool{false, true})
	holds(t, d, 1, 0, 3)
}

// P3.3: a copy's writes that are not safe are its own.
func TestCopyDoesNotShareItsWrites(t *testing.T) {
	d := made(t, 2)
	for i := range 3 {
		write(t, d, 0, fill(1, byte(i+1)), api.OK)
	}
	c := d.Copy()
	write(t, d, 0, fill(1, 10), api.OK)
	write(t, c, 0, fill(1, 20), api.OK)
	d.Crash([]bool{false, false, false, true})
	c.Crash([]bool{false, false, false, true})
	holds(t, d, 10)
	holds(t, c, 20)
}
