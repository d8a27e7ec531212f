// Package wire is layer 1: numbers and texts as bytes.
package wire

import (
	"math/bits"
	"slices"

	"lapidary/api"
)

const (
	longest = 10   // bytes of the greatest number
	more    = 0x80 // is set in a byte behind which another one follows
	low     = 0x7f // the seven bits of a byte that are the number's own
)

// Uint writes n, seven bits a byte, the lowest ones first.
func Uint(n uint64) []byte {
	// Nought has a byte too: it is counted as if it had one bit.
	size := (bits.Len64(n|1) + 6) / 7
	out := make([]byte, size)
	for i := range size {
		out[i] = byte(n>>(7*i)) | more
	}
	out[size-1] &= low
	return out
}

// ReadUint reads what Uint wrote, and tells how many bytes it had.
func ReadUint(b []byte) (uint64, int, api.Errno) {
	var n uint64
	for i := range min(len(b), longest) {
		if !goesOn(i, b[i]) {
			return 0, 0, api.ErrForm
		}
		n |= uint64(b[i]&low) << (7 * i)
		if b[i] < more {
			return n, i + 1, api.OK
		}
	}
	// A tenth byte ends the number or is refused, so that only bytes that are too few come here.
	return 0, 0, api.ErrShort
}

// goesOn tells whether a number can have c as its byte i.
func goesOn(i int, c byte) bool {
	if i == longest-1 && c > 1 {
		return false
	}
	return i == 0 || c != 0
}

// Fold lays the numbers below nought among those above, so that small ones stay small.
func Fold(n int64) uint64 {
	return uint64(n)<<1 ^ uint64(n>>63)
}

// Unfold undoes Fold.
func Unfold(n uint64) int64 {
	return int64(n>>1) ^ -int64(n&1)
}

// Text writes b behind how many bytes it has.
func Text(b []byte) ([]byte, api.Errno) {
	if len(b) > api.MaxRecord {
		return nil, api.ErrSize
	}
	return slices.Concat(Uint(uint64(len(b))), b), api.OK
}

// ReadText reads what Text wrote, and tells how many bytes that were all in all.
func ReadText(b []byte) ([]byte, int, api.Errno) {
	size, start, err := ReadUint(b)
	if err != api.OK {
		return nil, 0, err
	}
	if size > api.MaxRecord {
		return nil, 0, api.ErrSize
	}
	end := start + int(size)
	if len(b) < end {
		return nil, 0, api.ErrShort
	}
	return slices.Clone(b[start:end]), end, api.OK
}
