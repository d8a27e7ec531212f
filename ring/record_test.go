package ring_test

import (
	"bytes"
	"slices"
	"testing"

	"lapidary/api"
)

// P4.2: a record that is not of the form, in one thing only, is the end.
func TestOpenEndsAtARecordThatIsNotThere(t *testing.T) {
	a, b, c := []byte("first"), noise(250, 1), []byte("third")
	h := head{9, 1, 5, 3}
	rows := []struct {
		why  string
		spot int // of the sectors: 0 the first record's, 1 to 3 the second one's, 4 the third one's
		do   func(p *piece)
		want int // how many are there
	}{
		{"nothing is wrong", 0, func(p *piece) {}, 3},
		{"the first seq", 0, func(p *piece) { p.seq = 6 }, 0},
		{"a seq below", 0, func(p *piece) { p.seq = 4 }, 0},
		{"a seq with a high byte", 0, func(p *piece) { p.seq += 1 << 40 }, 0},
		{"a seq within", 2, func(p *piece) { p.seq = 5 }, 1},
		{"the seq of the last sector", 3, func(p *piece) { p.seq = 7 }, 1},
		{"the third seq", 4, func(p *piece) { p.seq = 6 }, 2},
		{"a life within", 2, func(p *piece) { p.life = 7 }, 1},
		{"a life at the last sector", 3, func(p *piece) { p.life = 5 }, 1},
		{"a life at the first sector", 1, func(p *piece) { p.life = 7 }, 1},
		{"a life below since", 0, func(p *piece) { p.life = 2 }, 0},
		{"the life of since", 0, func(p *piece) { p.life = 3 }, 3},
		{"a life below the one ahead", 4, func(p *piece) { p.life = 5 }, 2},
		{"the life of the one ahead", 4, func(p *piece) { p.life = 6 }, 3},
		{"a life above the one ahead", 0, func(p *piece) { p.life = 7 }, 1},
		{"a life above the head's", 4, func(p *piece) { p.life = 10 }, 2},
		{"the head's life", 4, func(p *piece) { p.life = 9 }, 3},
		{"a life with a high byte", 4, func(p *piece) { p.life += 1 << 40 }, 2},
		{"no life", 0, func(p *piece) { p.life = 0 }, 0},
		{"a place that is not 0", 0, func(p *piece) { p.place = 1 }, 0},
		{"a place twice", 2, func(p *piece) { p.place = 0 }, 1},
		{"a place too far", 3, func(p *piece) { p.place = 3 }, 1},
		{"a place with a high byte", 3, func(p *piece) { p.place = 258 }, 1},
		{"no last one", 3, func(p *piece) { p.last = 0 }, 1},
		{"a full last one that is not marked", 0, func(p *piece) { p.last, p.count, p.body = 0, 112, noise(112, 3) }, 0},
		{"a mark that is 2", 0, func(p *piece) { p.last = 2 }, 0},
		{"a mark that is 255", 4, func(p *piece) { p.last = 255 }, 2},
		{"a mark within", 2, func(p *piece) { p.last = 1 }, 2}, // a record of two sectors; the third sector is no first one
		{"too few bytes within", 1, func(p *piece) { p.count = 111; p.body = p.body[:111] }, 1},
		{"no bytes within", 1, func(p *piece) { p.count = 0; p.body = nil }, 1},
		{"no bytes", 0, func(p *piece) { p.count = 0; p.body = nil }, 0},
		{"too many bytes", 3, func(p *piece) { p.count = 113; p.body = noise(112, 2) }, 1},
		{"very many bytes", 0, func(p *piece) { p.count = 255; p.body = noise(112, 2) }, 0},
		{"bytes behind the record's", 0, func(p *piece) { p.count-- }, 0},
		{"a byte at the sector's end", 4, func(p *piece) { p.body = append(slices.Clone(p.body), append(make([]byte, 106), 1)...) }, 2},
		{"a last one of 112 bytes", 4, func(p *piece) { p.count, p.body = 112, noise(112, 4) }, 3},
		{"a last one of 1 byte", 4, func(p *piece) { p.count, p.body = 1, []byte{0} }, 3},
	}
	for _, r := range rows {
		ps := slices.Concat(pieces(5, 5, a), pieces(6, 6, b), pieces(7, 7, c))
		r.do(&ps[r.spot])
		d := have(t, 20, h, lay(ps...))
		l, got := opened(t, d)
		if len(got) != r.want {
			t.Errorf("%s: %d records are there, not %d", r.why, len(got), r.want)
		}
		if want := h.first + int64(r.want); l.Seq() != want {
			t.Errorf("%s: the next seq is %d, not %d", r.why, l.Seq(), want)
		}
	}
}

// P4.2: what Open tells are the records' bytes, and behind them the log goes on.
func TestOpenTellsTheBytes(t *testing.T) {
	a, b := noise(224, 1), noise(113, 2)
	for half := range byte(2) {
		d := have(t, 20, head{4, half, 1, 1}, lay(slices.Concat(pieces(1, 1, a), pieces(4, 2, b))...))
		l, got := opened(t, d)
		if !same(got, [][]byte{a, b}) {
			t.Errorf("Open tells %x", got)
		}
		at(t, l, 5, 5, 3)
		appends(t, l, []byte("more"), api.OK)
		stands(t, d, 2+9*int(half)+4, lay(pieces(5, 3, []byte("more"))...))
		tells(t, d, a, b, []byte("more"))
	}
}

// P4.2: a record stands within its half, wherever its sectors go on.
func TestOpenEndsWithTheHalf(t *testing.T) {
	for _, n := range []int{12, 13} {
		// Four sectors of the half are taken, of a record of two the second one would stand in the other half.
		ps := slices.Concat(pieces(2, 1, noise(448, 1)), pieces(2, 2, noise(200, 2)))
		d := have(t, n, head{2, 0, 1, 1}, lay(ps...))
		l, got := opened(t, d)
		if len(got) != 1 || l.Room() != 1 {
			t.Errorf("%d records, room %d", len(got), l.Room())
		}
		// All of the half is taken: the other half's first sector is not looked at.
		ps = slices.Concat(pieces(2, 1, noise(560, 1)), pieces(2, 2, []byte("x")))
		l, got = opened(t, have(t, n, head{2, 0, 1, 1}, lay(ps...)))
		if len(got) != 1 || l.Room() != 0 {
			t.Errorf("%d records, room %d", len(got), l.Room())
		}
	}
	// With an odd number of sectors the last one is of no half.
	d := have(t, 13, head{2, 1, 1, 1}, lay(slices.Concat(pieces(2, 1, noise(560, 1)), pieces(2, 2, []byte("x")))...))
	if l, got := opened(t, d); len(got) != 1 || l.Room() != 0 {
		t.Errorf("%d records, room %d", len(got), l.Room())
	}
	d = have(t, 5, head{2, 1, 1, 1}, lay(slices.Concat(pieces(2, 1, []byte("x")), pieces(2, 2, []byte("y")))...))
	if l, got := opened(t, d); len(got) != 1 || l.Room() != 0 {
		t.Errorf("%d records, room %d", len(got), l.Room())
	}
}

// P4.2: a record has at most MaxRecord bytes.
func TestOpenEndsAtARecordThatIsTooLong(t *testing.T) {
	for _, n := range []int{60000, 60001, 60032, 60033, 61000} {
		b := noise(n, 7)
		ps := slices.Concat(pieces(2, 1, []byte("x")), pieces(2, 2, b))
		_, got := opened(t, have(t, 2+2*600, head{2, 0, 1, 1}, lay(ps...)))
		want := [][]byte{[]byte("x"), b}
		if n > api.MaxRecord {
			want = want[:1]
		}
		if !same(got, want) {
			t.Errorf("of %d bytes: %d records", n, len(got))
		}
	}
}

// P4.2: any one byte that is changed ends the log there, or is a byte of a record's own.
func TestOpenBesideEveryByte(t *testing.T) {
	a, b, c := noise(112, 1), noise(20, 2), []byte("c")
	good := lay(slices.Concat(pieces(2, 1, a), pieces(2, 2, b), pieces(2, 3, c))...)
	for i := range good {
		bad := bytes.Clone(good)
		bad[i] ^= 0x80
		_, got := opened(t, have(t, 20, head{2, 0, 1, 1}, bad))
		spot, in := i/api.Sector, i%api.Sector-16
		whole := [][]byte{a, b, c}
		if in < 0 || in >= len(whole[spot]) {
			whole = whole[:spot]
		} else {
			whole[spot] = bytes.Clone(whole[spot])
			whole[spot][in] ^= 0x80
		}
		if !same(got, whole) {
			t.Errorf("byte %d: %d records", i, len(got))
		}
	}
}
