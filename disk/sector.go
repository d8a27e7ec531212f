package disk

import "lapidary/api"

// sector is the bytes that are written whole or not at all.
type sector [api.Sector]byte

// filled has the sectors by their places that are not all 0: a device that is mostly empty takes little room, and so does its copy.
type filled map[int]sector

func (f filled) put(at int, bytes sector) {
	if bytes == (sector{}) {
		delete(f, at)
		return
	}
	f[at] = bytes
}

// read answers the bytes of n sectors from at on, as memory of their own.
func (f filled) read(at, n int) []byte {
	out := make([]byte, n*api.Sector)
	for i := range n {
		bytes := f[at+i]
		copy(out[i*api.Sector:], bytes[:])
	}
	return out
}
