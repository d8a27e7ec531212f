package session

import (
	"testing"

	"lapidary/api"
	"lapidary/disk"
	"lapidary/kernel"
	"lapidary/store"
)

// A history is kept as far as somebody who is open began ahead of it, and no further.
func TestHistoryIsForgotten(t *testing.T) {
	d, _ := disk.New(2000)
	first, _ := kernel.Build()
	if err := store.Format(d, first); err != api.OK {
		t.Fatal("Format", err)
	}
	x, _ := store.Open(d)
	w := Make(x)
	kept := func(want int) {
		t.Helper()
		if n := w.history.Len(); n != want {
			t.Errorf("%d commits are kept, want %d", n, want)
		}
	}
	a, _ := w.Session()
	does := func(times int) {
		t.Helper()
		for range times {
			a.Ask("Root at: 1 put: 2")
			a.Run(9)
			if r := a.Commit(); r.Err != api.OK {
				t.Fatal("Commit", r)
			}
		}
	}
	does(3)
	kept(0)
	b, _ := w.Session()
	does(2)
	kept(2)
	c, _ := w.Session()
	does(3)
	kept(5)
	b.Abort()
	kept(3)
	does(1)
	kept(4)
	c.Close()
	kept(1)
	b.Commit()
	kept(0)
	does(1)
	kept(1)
	b.Close()
	a.Close()
	kept(0)
	if len(w.open) != 0 {
		t.Error("sessions that are closed are kept")
	}
	if b.world != nil || b.view != nil || b.run != nil || b.ops != nil {
		t.Error("a closed session keeps what it did")
	}
}
