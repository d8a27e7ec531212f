package ring_test

import (
	"bytes"
	"slices"
	"testing"

	"lapidary/api"
	"lapidary/disk"
	"lapidary/ring"
)

// P4.5, the example.
func TestARecordThatWasSaidToBeThereIs(t *testing.T) {
	d, l := fresh(t, 6)
	appends(t, l, []byte("a"), api.OK)
	d.Crash(nil)
	tells(t, d, []byte("a"))
}

// step is a call of a log, and what is there behind it.
type step struct {
	name string
	do   func(l *ring.Log) api.Errno
	then func(now [][]byte) [][]byte
}

func adding(n int, c byte) step {
	b := bytes.Repeat([]byte{c}, n)
	return step{
		"Append " + string(c),
		func(l *ring.Log) api.Errno { return l.Append(b) },
		func(now [][]byte) [][]byte { return append(slices.Clone(now), b) },
	}
}

func renewing(c byte, sizes ...int) step {
	var b [][]byte
	for i, n := range sizes {
		b = append(b, bytes.Repeat([]byte{c + byte(i)}, n))
	}
	return step{
		"Rewrite " + string(c),
		func(l *ring.Log) api.Errno { return l.Rewrite(b) },
		func(now [][]byte) [][]byte { return b },
	}
}

func steps() []step {
	return []step{adding(1, 'a'), adding(230, 'b'), adding(112, 'c'), renewing('m', 113, 3), renewing('r', 1, 112), renewing('z')}
}

// subsets calls f with each choice among the writes that are not safe.
func subsets(n int, f func(keep []bool)) {
	for choice := range 1 << n {
		keep := make([]bool, n)
		for i := range keep {
			keep[i] = choice>>i&1 == 1
		}
		f(keep)
	}
}

// attempt does one step on a device that fails at the n-th write, and tells what may be there behind it; died is false if no write failed.
func attempt(t *testing.T, d *disk.Disk, n int, s step) (may [][][]byte, died bool) {
	t.Helper()
	l, now := opened(t, d)
	d.Fail(n)
	switch err := s.do(l); err {
	case api.OK:
		d.Fail(0)
		return [][][]byte{s.then(now)}, false
	case api.ErrDead:
		return [][][]byte{now, s.then(now)}, true
	case api.ErrFull:
		d.Fail(0)
		return [][][]byte{now}, false
	default:
		t.Fatalf("%s = %d", s.name, err)
		return nil, false
	}
}

// oneOf asks that what a device tells may be there, and that it tells it again and again, whatever comes between.
func oneOf(t *testing.T, d *disk.Disk, may [][][]byte) {
	t.Helper()
	c := d.Copy()
	_, told := opened(t, c)
	if !slices.ContainsFunc(may, func(m [][]byte) bool { return same(m, told) }) {
		t.Fatalf("Open tells %q, not one of %q", told, may)
	}
	c.Crash(nil)
	tells(t, c, told...)
	for _, keep := range [][]bool{nil, {true}} { // an Open that fails, and whose head stays or not
		c := d.Copy()
		c.Fail(1)
		if _, _, err := ring.Open(c); err != api.ErrDead {
			t.Fatalf("Open = %d", err)
		}
		c.Crash(keep)
		tells(t, c, told...)
	}
	// A head that was written and that nobody made safe.
	c = d.Copy()
	before := contents(t, c)
	opened(t, c)
	after := contents(t, c)
	e := d.Copy()
	for i := range 2 {
		if part := after[i*api.Sector : (i+1)*api.Sector]; !bytes.Equal(part, before[i*api.Sector:(i+1)*api.Sector]) {
			e.Write(i, part)
		}
	}
	e.Crash([]bool{true})
	tells(t, e, told...)
}

// P4.5, P4.6: some steps, one behind the other, each of which fails at each write, with each choice of what stays.
func TestNothingIsLostInThreeSteps(t *testing.T) {
	start, l := fresh(t, 14)
	appends(t, l, []byte("said"), api.OK)
	each(t, start, 3)
}

// each does every step on a device, and then the others on what it left there.
func each(t *testing.T, start *disk.Disk, depth int) {
	t.Helper()
	if depth == 0 {
		return
	}
	for _, s := range steps() {
		for n, died := 1, true; died; n++ {
			d := start.Copy()
			var may [][][]byte
			may, died = attempt(t, d, n, s)
			subsets(d.Pending(), func(keep []bool) {
				c := d.Copy()
				c.Crash(keep)
				oneOf(t, c, may)
				each(t, c, depth-1)
			})
		}
	}
}

// chance is numbers that are always the same ones.
type chance uint64

func (c *chance) below(n int) int {
	*c = *c*6364136223846793005 + 1442695040888963407
	return int(uint64(*c)>>33) % n
}

// P4.5, P4.6: long stories of steps, failing writes, crashes and openings, held against what was said.
func TestNothingIsLostInLongStories(t *testing.T) {
	c := chance(11)
	for range 300 {
		d, l := fresh(t, 6+c.below(20))
		may := [][][]byte{nil}
		for range 40 {
			now := may[0]
			s := story(&c)
			switch err := s.do(l); err {
			case api.OK:
				may = [][][]byte{s.then(now)}
			case api.ErrDead:
				may = [][][]byte{now, s.then(now)}
			case api.ErrFull:
			default:
				t.Fatalf("%s = %d", s.name, err)
			}
			if c.below(4) == 0 {
				d.Fail(1 + c.below(8))
			}
			if len(may) == 2 || c.below(6) == 0 {
				l, may = recovered(t, &c, d, may)
			}
		}
	}
}

// story is any step.
func story(c *chance) step {
	if c.below(4) > 0 {
		return adding(1+c.below(300), byte('A'+c.below(26)))
	}
	sizes := make([]int, c.below(5))
	for i := range sizes {
		sizes[i] = 1 + c.below(200)
	}
	return renewing(byte('a'+c.below(20)), sizes...)
}

// recovered crashes and opens a device till that goes well, and asks that it tells what may be there.
func recovered(t *testing.T, c *chance, d *disk.Disk, may [][][]byte) (*ring.Log, [][][]byte) {
	t.Helper()
	for {
		keep := make([]bool, d.Pending())
		for i := range keep {
			keep[i] = c.below(2) == 1
		}
		d.Crash(keep)
		_, told := opened(t, d.Copy())
		if c.below(3) == 0 {
			d.Fail(1 + c.below(2))
		}
		l, got, err := ring.Open(d)
		if err == api.ErrDead {
			may = [][][]byte{told}
			continue
		}
		if err != api.OK || !same(got, told) {
			t.Fatalf("Open tells %q, %d, not %q", got, err, told)
		}
		if !slices.ContainsFunc(may, func(m [][]byte) bool { return same(m, got) }) {
			t.Fatalf("Open tells %q, not one of %q", got, may)
		}
		return l, [][][]byte{got}
	}
}

// P4.5: a half that was written and never taken, met by a later life.
func TestAHalfThatWasNeverTaken(t *testing.T) {
	for fail := 1; fail <= 4; fail++ {
		d, l := fresh(t, 12)
		appends(t, l, []byte("old"), api.OK)
		d.Fail(fail)
		rewrites(t, l, [][]byte{[]byte("p"), []byte("q"), []byte("r")}, api.ErrDead)
		d.Crash([]bool{true, true, true})
		l, got := opened(t, d)
		if !same(got, [][]byte{[]byte("old")}) {
			t.Fatalf("Open tells %q", got)
		}
		at(t, l, 4, 3, 2) // the life of the half that was never taken
		tells(t, d, []byte("old"))
		// The next one takes that half, with the same seqs: of the old sectors none counts.
		rewrites(t, l, [][]byte{[]byte("s")}, api.OK)
		tells(t, d, []byte("s"))
		l, _ = opened(t, d)
		appends(t, l, []byte("t"), api.OK)
		tells(t, d, []byte("s"), []byte("t"))
	}
}

// P4.5: a log that is full loses nothing, and has room again when it is rewritten.
func TestALogThatIsFull(t *testing.T) {
	d, l := fresh(t, 4) // halves of one sector
	appends(t, l, []byte("a"), api.OK)
	appends(t, l, []byte("b"), api.ErrFull)
	tells(t, d, []byte("a"))
	rewrites(t, l, [][]byte{[]byte("a"), []byte("b")}, api.ErrFull)
	rewrites(t, l, nil, api.OK)
	appends(t, l, []byte("b"), api.OK)
	d.Crash(nil)
	tells(t, d, []byte("b"))
	l, _ = opened(t, d)
	appends(t, l, []byte("c"), api.ErrFull)
	rewrites(t, l, [][]byte{[]byte("c")}, api.OK)
	tells(t, d, []byte("c"))
}

// P4.5, P7: a device with any bytes at all is refused, or opened.
func TestOpenOfAnyBytes(t *testing.T) {
	c := chance(17)
	for i := range 400 {
		d := device(t, 4+c.below(30))
		put(t, d, 0, noise(d.Size()*api.Sector, uint32(i)))
		refused(t, d, api.ErrForm)
		h := head{int64(1 + c.below(4)), byte(c.below(2)), int64(1 + c.below(2)), int64(1 + c.below(4))}
		put(t, d, c.below(2), h.bytes())
		for spot := 2; spot < d.Size(); spot++ {
			p := piece{int64(1 + c.below(3)), int64(1 + c.below(3)), uint16(c.below(2)), byte(c.below(2)), 112, noise(112, 1)}
			put(t, d, spot, p.bytes())
		}
		l, told := opened(t, d)
		at(t, l, l.Room(), h.life+1, h.first+int64(len(told)))
	}
}
