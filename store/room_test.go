package store

import (
	"testing"

	"lapidary/api"
	"lapidary/value"
)

// P19.1: a change that alone has more bytes than a piece may have goes into one all the same, by itself. No change that can be has so many; so the room is made smaller here.
func TestOneAtLeast(t *testing.T) {
	big := value.Change{Oop: 1, Obj: api.Obj{Class: 1, Bytes: make([]byte, 100)}}
	changes := []value.Change{big, {Oop: 2, Gone: true}, {Oop: 3, Gone: true}}
	alone := size(1, big)
	for _, room := range []int{-1, 0, 1, 2, 3, alone - 1, alone, alone + 1} {
		if n := fits(room, 1, changes...); n != 1 {
			t.Errorf("into %d bytes go %d", room, n)
		}
	}
	for more, want := range []int{1, 1, 2, 2, 3, 3} {
		if n := fits(alone+more, 1, changes...); n != want {
			t.Errorf("into %d bytes go %d, want %d", alone+more, n, want)
		}
	}
	if n := fits(most, 1); n != 0 {
		t.Errorf("of none go %d", n)
	}
}
