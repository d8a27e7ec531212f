package ring

import (
	"lapidary/api"
	"lapidary/wire"
)

const (
	heads  = 2 // sectors for heads
	name   = "LAPIDARY"
	number = 6 // bytes of a life, a seq
	summed = len(name) + 3*number + 1
)

// sector is the bytes that a device writes whole or not at all.
type sector [api.Sector]byte

// head says where the records are, and which of those that stand there count.
type head struct {
	life  int64
	half  int
	first int64 // the seq of the first record
	since int64 // the life of the oldest record that counts
}

// place tells the sector of a head: two lives, one behind the other, never write the same one.
func (h head) place() int {
	return int(h.life % heads)
}

func (h head) sector() sector {
	var s sector
	c := cursor(s[:])
	copy(c.next(len(name)), name)
	c.put(number, h.life)
	c.put(1, int64(h.half))
	c.put(number, h.first)
	c.put(number, h.since)
	c.put(4, int64(wire.Sum(s[:summed])))
	return s
}

// readHead reads what can be a head: just the bytes that its numbers are written as.
func readHead(s sector) (head, bool) {
	c := cursor(s[len(name):])
	h := head{
		life:  c.get(number),
		half:  int(c.get(1)),
		first: c.get(number),
		since: c.get(number),
	}
	can := counts(h.life) && counts(h.first) && counts(h.since) && h.half <= 1
	if !can || h.sector() != s {
		return head{}, false
	}
	return h, true
}

// counts tells whether n can be a life or a seq.
func counts(n int64) bool {
	return n >= 1 && n <= api.MaxCommit
}

// newest answers the head of a device whose sectors these are.
func newest(all []byte) (head, bool) {
	h, ok := readHead(sector(all))
	other, can := readHead(sector(all[api.Sector:]))
	if can && (!ok || other.life > h.life) {
		return other, true
	}
	return h, ok
}
