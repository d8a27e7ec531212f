package whole

import (
	"math/bits"

	"lapidary/api"
)

// The digits of a number are words of 32 bits here, the lowest first: a product of two, and a carry, has room in 64 bits.
const (
	wordBytes = 4
	wordBits  = 32
	words     = api.MaxDigits / wordBytes // of a number that can be
)

// digits has room for every number that can be.
type digits [words]uint32

// load makes digits of a number's bytes.
func load(mag []byte) digits {
	var d digits
	for i := range len(mag) {
		d[i/wordBytes] |= uint32(mag[len(mag)-1-i]) << (8 * (i % wordBytes))
	}
	return d
}

// pack makes a number of digits, if they are not too many. Nought is never below nought.
func pack(neg bool, d []uint32) (Int, api.Errno) {
	size := byteCount(d)
	if size == 0 {
		return Int{}, api.OK
	}
	if size > api.MaxDigits {
		return Int{}, api.ErrLarge
	}
	mag := make([]byte, size)
	for i := range size {
		mag[size-1-i] = byte(d[i/wordBytes] >> (8 * (i % wordBytes)))
	}
	return Int{Neg: neg, Mag: mag}, api.OK
}

// used is how many digits there are without those of nought above them.
func used(d []uint32) int {
	n := len(d)
	for n > 0 && d[n-1] == 0 {
		n--
	}
	return n
}

func byteCount(d []uint32) int {
	n := used(d)
	if n == 0 {
		return 0
	}
	return (n-1)*wordBytes + (bits.Len32(d[n-1])+7)/8
}

// sum has one digit more, for what is carried out of the highest one.
func sum(x, y digits) [words + 1]uint32 {
	var s [words + 1]uint32
	var carry uint64
	for i := range words {
		carry += uint64(x[i]) + uint64(y[i])
		s[i] = uint32(carry)
		carry >>= wordBits
	}
	s[words] = uint32(carry)
	return s
}

// difference is x less y, which is not above x.
func difference(x, y digits) digits {
	var d digits
	var borrow uint64
	for i := range words {
		v := uint64(x[i]) - uint64(y[i]) - borrow
		d[i] = uint32(v)
		borrow = v >> 63
	}
	return d
}

// next is one more than x, which is not the greatest.
func next(x digits) digits {
	addOnto(x[:], 1, 1)
	return x
}

// product has as many digits as both together.
func product(x, y digits) [2 * words]uint32 {
	var p [2 * words]uint32
	n := used(y[:])
	for i := range used(x[:]) {
		var carry uint64
		for j := range n {
			carry += uint64(x[i])*uint64(y[j]) + uint64(p[i+j])
			p[i+j] = uint32(carry)
			carry >>= wordBits
		}
		p[i+n] = uint32(carry)
	}
	return p
}

// addOnto makes d so many times as much, and more by one digit; what has no room in d is gone.
func addOnto(d []uint32, times, plus uint32) {
	carry := uint64(plus)
	for i := range len(d) {
		carry += uint64(d[i]) * uint64(times)
		d[i] = uint32(carry)
		carry >>= wordBits
	}
}

// divideShort makes d its quotient by one digit that is not 0, and answers what is left.
func divideShort(d []uint32, by uint32) uint32 {
	var rest uint64
	for i := range len(d) {
		at := len(d) - 1 - i
		rest = rest<<wordBits | uint64(d[at])
		d[at] = uint32(rest / uint64(by))
		rest %= uint64(by)
	}
	return uint32(rest)
}
