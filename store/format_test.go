package store_test

import (
	"bytes"
	"slices"
	"testing"

	"lapidary/api"
	"lapidary/disk"
	"lapidary/ring"
	"lapidary/store"
	"lapidary/value"
)

// byHand does with a device what Format must do, by the ring's calls.
func byHand(t *testing.T, d *disk.Disk, first value.Record) api.Errno {
	t.Helper()
	if err := ring.Format(d); err != api.OK {
		return err
	}
	l, _, err := ring.Open(d)
	if err != api.OK {
		return err
	}
	return l.Rewrite(modelPieces(t, first))
}

func formats(t *testing.T, d *disk.Disk, first value.Record, want api.Errno) {
	t.Helper()
	if err := store.Format(d, first); err != want {
		t.Errorf("Format = %d, want %d", err, want)
	}
}

// P19.2: a device has what Format, Open and Rewrite of a ring make of it, whatever it had ahead of that.
func TestFormat(t *testing.T) {
	for _, first := range []value.Record{
		rec(1), rec(1, put(1, a)), rec(7, put(1, a), put(300, b), put(api.MaxOops, c)), rec(api.MaxCommit, put(2, b)),
		filled(t, 4000, 1, 1), filled(t, 9000, 1, 1),
	} {
		d, e := device(t, 200), device(t, 200)
		for range 2 {
			formats(t, d, first, api.OK)
			byHand(t, e, first)
			if !bytes.Equal(contents(t, d), contents(t, e)) || d.Pending() != 0 {
				t.Fatal("Format made another device")
			}
			_, records, err := ring.Open(d.Copy())
			if want, _ := store.Pieces(first); err != api.OK || !slices.EqualFunc(records, want, bytes.Equal) {
				t.Fatal("the log has other records")
			}
			tells(t, d, first)
			s := opened(t, d)
			opened(t, e)
			if first.Commit < api.MaxCommit {
				commits(t, s, rec(first.Commit+1, put(9, c)), api.OK)
			}
			e = d.Copy()
		}
	}
}

// P19.2: a change of the first commit that lets an object go is none that stays.
func TestFormatOfGone(t *testing.T) {
	d := formatted(t, 20, rec(3, gone(1), put(2, a), gone(api.MaxOops)))
	tells(t, d, rec(3, put(2, a)))
}

// P19.2: the errors, in the order in which they are named.
func TestFormatRefused(t *testing.T) {
	dead := func(d *disk.Disk) *disk.Disk {
		d.Fail(1)
		d.Write(0, make([]byte, api.Sector))
		return d
	}
	for _, r := range wrong() {
		formats(t, nil, r, api.ErrNil)
		formats(t, device(t, 3), r, api.ErrArg)
		formats(t, dead(device(t, 3)), r, api.ErrArg)
		d := formatted(t, 20, rec(1, put(1, a)))
		before := contents(t, d)
		formats(t, d, r, api.ErrArg)
		if !bytes.Equal(contents(t, d), before) {
			t.Error("Format of what can not be changed the device")
		}
	}
	formats(t, nil, rec(1), api.ErrNil)
	formats(t, &disk.Disk{}, rec(1), api.ErrSize)
	for sectors := 1; sectors < 4; sectors++ {
		formats(t, device(t, sectors), rec(1), api.ErrSize)
		formats(t, dead(device(t, sectors)), rec(1), api.ErrSize)
	}
	formats(t, dead(device(t, 4)), rec(1), api.ErrDead)
	formats(t, device(t, 4), rec(1), api.OK)
}

// P19.2: a first commit that is too long for a half leaves a log of no records.
func TestFormatFull(t *testing.T) {
	first := filled(t, 112, 1, 1) // with its first byte 113: two sectors
	formats(t, device(t, 6), first, api.OK)
	for sectors := 4; sectors < 6; sectors++ {
		d := formatted(t, sectors, rec(1, put(1, a)))
		formats(t, d, first, api.ErrFull)
		refused(t, d, api.ErrForm)
		if _, records, err := ring.Open(d.Copy()); err != api.OK || len(records) != 0 {
			t.Errorf("the log has %d records, %d", len(records), err)
		}
		formats(t, d, rec(1, put(1, a)), api.OK)
		tells(t, d, rec(1, put(1, a)))
	}
	formats(t, device(t, 4), filled(t, 111, 1, 1), api.OK)
}

// P19.2, P19.5: a write that fails, at each place, and a crash with each choice of what stays: there is no store, or all of the first commit; and the device can be formatted again.
func TestFormatFails(t *testing.T) {
	first := filled(t, 500, 1, 1)
	for n := 1; ; n++ {
		d := device(t, 20)
		d.Fail(n)
		err := store.Format(d, first)
		if err == api.OK {
			if n != 4+5+1 { // the two heads of a format, that of an opening, five sectors, their head
				t.Errorf("Format has %d writes", n-1)
			}
			return
		}
		if err != api.ErrDead {
			t.Fatalf("Format whose write %d fails = %d", n, err)
		}
		subsets(d.Pending(), func(keep []bool) {
			e := d.Copy()
			e.Crash(keep)
			refused(t, e, api.ErrForm) // without its head, which is the last write of all, nothing is there
			formats(t, e, first, api.OK)
			tells(t, e, first)
		})
	}
}

// P19.2: what is handed in is not changed, and not kept.
func TestFormatOwnMemory(t *testing.T) {
	first, want := filled(t, 5000, 1, 1), filled(t, 5000, 1, 1)
	d := formatted(t, 200, first)
	if !sameRecord(first, want) {
		t.Error("Format changed its argument")
	}
	first.Changes[0].Obj.Bytes[0] = '?'
	tells(t, d, want)
}
