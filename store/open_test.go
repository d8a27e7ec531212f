package store_test

import (
	"bytes"
	"math/rand"
	"testing"

	"lapidary/api"
	"lapidary/disk"
	"lapidary/ring"
	"lapidary/store"
	"lapidary/table"
	"lapidary/value"
)

// P19.3: logs that say something, and what that is.
func TestOpen(t *testing.T) {
	long := filled(t, 59999, 2, 1)
	tests := []struct {
		name string
		log  [][]byte
		want value.Record
	}{
		{"a commit", [][]byte{line(t, 0, rec(1, put(1, a)))}, rec(1, put(1, a))},
		{"a commit of no changes", [][]byte{line(t, 0, rec(9))}, rec(9)},
		{"a last piece alone", [][]byte{line(t, 2, rec(1, put(1, a)))}, rec(1, put(1, a))},
		{"two pieces", [][]byte{line(t, 1, rec(1, put(1, a))), line(t, 2, rec(1, put(2, b)))}, rec(1, put(1, a), put(2, b))},
		{"pieces without changes", [][]byte{line(t, 1, rec(1)), line(t, 1, rec(1, put(1, a))), line(t, 1, rec(1)), line(t, 2, rec(1))}, rec(1, put(1, a))},
		{"pieces, then a commit", [][]byte{line(t, 1, rec(1, put(1, a))), line(t, 2, rec(1, put(2, b))), line(t, 0, rec(2, gone(1), put(3, c)))}, rec(2, put(2, b), put(3, c))},
		{"a commit, then pieces", [][]byte{line(t, 0, rec(1, put(5, a))), line(t, 1, rec(2, put(1, b))), line(t, 2, rec(2, put(5, c)))}, rec(2, put(1, b), put(5, c))},
		{"pieces, then pieces", [][]byte{line(t, 1, rec(1, put(5, a))), line(t, 2, rec(1)), line(t, 1, rec(2)), line(t, 2, rec(2, put(1, b)))}, rec(2, put(1, b), put(5, a))},
		{"commits that are not the next ones", [][]byte{line(t, 0, rec(5, put(1, a))), line(t, 0, rec(9, put(1, b))), line(t, 2, rec(api.MaxCommit))}, rec(api.MaxCommit, put(1, b))},
		{"one that is gone and never was", [][]byte{line(t, 0, rec(1, gone(7)))}, rec(1)},
		{"a long one", [][]byte{line(t, 0, long)}, long},
		{"a long piece", [][]byte{line(t, 2, rec(1, put(1, a))), line(t, 1, rec(2)), line(t, 2, filled(t, 20000, 2, 1))}, filled(t, 20000, 2, 1)},
	}
	for _, test := range tests {
		d := long60(t, test.log...)
		s, err := store.Open(d)
		if err != api.OK || s == nil {
			t.Errorf("%s: Open = %d", test.name, err)
			continue
		}
		if all := s.Table().All(); !sameRecord(all, test.want) || s.Last() != test.want.Commit || s.Table().First() != 0 {
			t.Errorf("%s: behind %d there is %v", test.name, s.Last(), all)
		}
	}
}

// long60 is a device with room for records that are as long as can be.
func long60(t *testing.T, records ...[]byte) *disk.Disk {
	t.Helper()
	d := device(t, api.MaxSectors)
	if err := ring.Format(d); err != api.OK {
		t.Fatalf("Format = %d", err)
	}
	l, _, _ := ring.Open(d)
	for _, b := range records {
		if err := l.Append(b); err != api.OK {
			t.Fatalf("Append = %d", err)
		}
	}
	return d
}

// P19.3: a table has all commits of the log, one behind the other, pieces as one.
func TestOpenHasAllCommits(t *testing.T) {
	d := logged(t, line(t, 1, rec(2, put(1, a))), line(t, 2, rec(2, put(2, b))), line(t, 0, rec(3, put(1, c))), line(t, 0, rec(5, gone(2))))
	want := table.New()
	for _, r := range []value.Record{rec(2, put(1, a), put(2, b)), rec(3, put(1, c)), rec(5, gone(2))} {
		want.Apply(r)
	}
	s := opened(t, d)
	if !sameTable(s.Table(), want) {
		t.Error("the table is another one")
	}
	commits(t, s, rec(6, put(2, a)), api.OK)
	has(t, s, rec(6, put(1, c), put(2, a)))
}

// P19.3: logs that are none.
func TestOpenRefused(t *testing.T) {
	one, good := line(t, 0, rec(1, put(1, a))), written(t, rec(2, put(2, b)))
	longer := append([]byte{0}, good...)
	longer = append(longer, 0)
	tests := []struct {
		name string
		log  [][]byte
	}{
		{"no records", nil},
		{"a kind alone", [][]byte{{0}}},
		{"a last piece's kind alone", [][]byte{{2}}},
		{"no kind", [][]byte{good}},
		{"the kind 3", [][]byte{append([]byte{3}, good...)}},
		{"the kind 255", [][]byte{append([]byte{255}, good...)}},
		{"bytes that end too early", [][]byte{line(t, 0, rec(2, put(2, b)))[:len(good)]}},
		{"bytes that go on", [][]byte{longer}},
		{"no commit's number", [][]byte{{0, 0, 0}}},
		{"changes that do not rise in one", [][]byte{{0, 1, 2, 7, 1, 7, 1}}},
		{"what is none behind a commit", [][]byte{one, {9}}},
		{"what is none behind pieces", [][]byte{line(t, 1, rec(1)), {2}}},
		{"a piece that nothing follows", [][]byte{line(t, 1, rec(1, put(1, a)))}},
		{"two pieces without a last one", [][]byte{line(t, 1, rec(1, put(1, a))), line(t, 1, rec(1, put(2, a)))}},
		{"a piece behind a commit", [][]byte{one, line(t, 1, rec(2))}},
		{"a piece ended by a commit", [][]byte{line(t, 1, rec(1, put(1, a))), line(t, 0, rec(1, put(2, a)))}},
		{"a piece ended by the next commit", [][]byte{line(t, 1, rec(1, put(1, a))), line(t, 0, rec(2, put(2, a)))}},
		{"a commit between pieces", [][]byte{line(t, 1, rec(1, put(1, a))), line(t, 0, rec(2)), line(t, 2, rec(1, put(2, a)))}},
		{"a last piece of another commit", [][]byte{line(t, 1, rec(1, put(1, a))), line(t, 2, rec(2, put(2, a)))}},
		{"a piece of another commit", [][]byte{line(t, 1, rec(1)), line(t, 1, rec(2)), line(t, 2, rec(2))}},
		{"a piece of another commit, then of the same", [][]byte{line(t, 1, rec(2)), line(t, 1, rec(1)), line(t, 2, rec(2))}},
		{"pieces that do not rise", [][]byte{line(t, 1, rec(1, put(2, a))), line(t, 2, rec(1, put(1, a)))}},
		{"pieces with the same object", [][]byte{line(t, 1, rec(1, put(2, a))), line(t, 2, rec(1, gone(2)))}},
		{"pieces that do not rise over an empty one", [][]byte{line(t, 1, rec(1, put(2, a))), line(t, 1, rec(1)), line(t, 2, rec(1, put(2, a)))}},
		{"the same commit again", [][]byte{one, line(t, 0, rec(1, put(2, a)))}},
		{"a commit below", [][]byte{line(t, 0, rec(5)), line(t, 0, rec(4))}},
		{"pieces of the same commit again", [][]byte{one, line(t, 1, rec(1, put(2, a))), line(t, 2, rec(1, put(3, a)))}},
		{"a last piece twice", [][]byte{line(t, 2, rec(1, put(1, a))), line(t, 2, rec(1, put(2, a)))}},
	}
	for _, test := range tests {
		t.Run(test.name, func(t *testing.T) {
			d := logged(t, test.log...)
			refused(t, d, api.ErrForm)
			// Nor are writes made safe that somebody else did there.
			d.Write(400, bytes.Repeat([]byte{7}, api.Sector))
			refused(t, d, api.ErrForm)
			formats(t, d, rec(1, put(1, c)), api.OK)
			tells(t, d, rec(1, put(1, c)))
		})
	}
}

// P19.3: the ring's errors, ahead of those of what the log says.
func TestOpenErrorsOfTheRing(t *testing.T) {
	for _, d := range []*disk.Disk{nil, {}} {
		if s, err := store.Open(d); s != nil || err != api.ErrNil && err != api.ErrSize {
			t.Errorf("Open = %v, %d", s, err)
		}
	}
	if _, err := store.Open(nil); err != api.ErrNil {
		t.Errorf("Open of no device = %d", err)
	}
	for sectors := 1; sectors < 4; sectors++ {
		refused(t, device(t, sectors), api.ErrSize)
	}
	refused(t, device(t, 20), api.ErrForm)
	full := logged(t, line(t, 0, rec(1)))
	full.Write(0, head(api.MaxCommit, 1, 1))
	refused(t, full, api.ErrFull)
	none := device(t, 20)
	none.Write(0, head(api.MaxCommit, 1, 1))
	refused(t, none, api.ErrFull) // ahead of ErrForm: its log has no records
	for _, log := range [][][]byte{nil, {line(t, 0, rec(1))}} {
		d := logged(t, log...)
		d.Fail(1)
		if s, err := store.Open(d); s != nil || err != api.ErrDead {
			t.Errorf("Open whose write fails = %v, %d", s, err)
		}
		if _, err := d.Read(0, 1); err != api.ErrDead {
			t.Error("the device is not dead")
		}
		if s, err := store.Open(d); s != nil || err != api.ErrDead {
			t.Errorf("Open of a dead device = %v, %d", s, err)
		}
	}
}

// P19.3: to open is one opening of the ring, no more: one write, one life.
func TestOpenIsOneOpening(t *testing.T) {
	d := formatted(t, 20, rec(1, put(1, a)))
	e := d.Copy()
	d.Fail(2)
	opened(t, d)
	ring.Open(e)
	if !bytes.Equal(contents(t, d), contents(t, e)) || d.Pending() != 0 {
		t.Error("Open did something else with the device")
	}
}

// P7, P19.3: a log with any bytes at all is refused, or opened; and opened again it tells the same.
func TestOpenOfAny(t *testing.T) {
	good := 0
	for seed := range int64(1500) {
		r := rand.New(rand.NewSource(seed))
		var log [][]byte
		commit := int64(1)
		for range r.Intn(5) {
			b := line(t, byte(r.Intn(3)), rec(commit, someChanges(r, 6)...))
			if r.Intn(12) == 0 {
				b[r.Intn(len(b))] += byte(1 + r.Intn(255))
			}
			if log = append(log, b); b[0] != 1 && r.Intn(9) > 0 {
				commit++
			}
		}
		d := logged(t, log...)
		s, err := store.Open(d)
		if (s == nil) != (err != api.OK) || err != api.OK && err != api.ErrForm {
			t.Fatalf("Open = %v, %d", s, err)
		}
		want, can := modelReplay(log)
		if can != (err == api.OK) || can && !sameTable(s.Table(), want) {
			t.Fatalf("with the seed %d: Open = %d, want %v", seed, err, can)
		}
		if can {
			good++
			tells(t, d, s.Table().All())
		}
	}
	if good < 200 {
		t.Errorf("only %d logs could be", good)
	}
}

// modelReplay is what a log says by the chapter's words, and whether it can be: it is cut behind each record that is a commit or a last piece.
func modelReplay(log [][]byte) (*table.Table, bool) {
	out := table.New()
	for len(log) > 0 {
		n := 0
		for n < len(log) && log[n][0] == 1 {
			n++
		}
		if n == len(log) || log[n][0] > 2 || n > 0 && log[n][0] == 0 {
			return nil, false
		}
		var joined value.Record
		for i, b := range log[:n+1] {
			part, err := value.GetRecord(b[1:])
			if err != api.OK || i > 0 && part.Commit != joined.Commit {
				return nil, false
			}
			joined = rec(part.Commit, append(joined.Changes, part.Changes...)...)
		}
		if out.Apply(joined) != api.OK {
			return nil, false
		}
		log = log[n+1:]
	}
	return out, out.Last() > 0
}
