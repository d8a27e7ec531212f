package number

import (
	"math"
	"slices"

	"lapidary/api"
	"lapidary/whole"
)

// The first byte of a number's bytes.
const (
	fromNought  = 0 // a whole number that is not below nought
	belowNought = 1
	pair        = 2
)

const floatSize = 8

// Put is a number's bytes.
func Put(x Num) ([]byte, api.Errno) {
	if !Right(x) {
		return nil, api.ErrArg
	}
	if x.Pair {
		b := appendFloat([]byte{pair}, real(x.C))
		return appendFloat(b, imag(x.C)), api.OK
	}
	kind := byte(fromNought)
	if x.I.Neg {
		kind = belowNought
	}
	return append([]byte{kind}, x.I.Mag...), api.OK
}

// appendFloat writes a float's bits, the highest byte first.
func appendFloat(b []byte, f float64) []byte {
	n := math.Float64bits(f)
	for i := range floatSize {
		b = append(b, byte(n>>(8*(floatSize-1-i))))
	}
	return b
}

// Get is the number whose bytes b is.
func Get(b []byte) (Num, api.Errno) {
	x, read := readNum(b)
	if !read || !Right(x) {
		return Num{}, api.ErrForm
	}
	x.I.Mag = slices.Clone(x.I.Mag)
	return x, api.OK
}

// readNum answers a number that has b's own memory, and perhaps can not be.
func readNum(b []byte) (x Num, read bool) {
	if len(b) == 0 {
		return Num{}, false
	}
	kind, rest := b[0], b[1:]
	switch kind {
	case fromNought, belowNought:
		return Num{I: whole.Int{Neg: kind == belowNought, Mag: rest}}, true
	case pair:
		if len(rest) != 2*floatSize {
			return Num{}, false
		}
		return Num{Pair: true, C: complex(readFloat(rest), readFloat(rest[floatSize:]))}, true
	}
	return Num{}, false
}

// readFloat reads what appendFloat wrote first into b.
func readFloat(b []byte) float64 {
	var n uint64
	for i := range floatSize {
		n = n<<8 | uint64(b[i])
	}
	return math.Float64frombits(n)
}
