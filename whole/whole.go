// Package whole is layer 2: whole numbers of any size.
package whole

import (
	"slices"

	"lapidary/api"
)

// Int is a whole number: is it below nought, and its bytes, the highest first.
type Int struct {
	Neg bool
	Mag []byte
}

// Right tells whether x can be.
func Right(x Int) bool {
	if len(x.Mag) == 0 {
		return !x.Neg
	}
	return len(x.Mag) <= api.MaxDigits && x.Mag[0] != 0
}

// Of is n as an Int.
func Of(n int64) Int {
	size := uint64(n)
	if n < 0 {
		size = -size
	}
	d := [2]uint32{uint32(size), uint32(size >> wordBits)}
	x, _ := pack(n < 0, d[:])
	return x
}

// Small is x as an int64, if it is one.
func Small(x Int) (int64, bool) {
	if !Right(x) || len(x.Mag) > 8 {
		return 0, false
	}
	var size uint64
	for _, c := range x.Mag {
		size = size<<8 | uint64(c)
	}
	const lowest = 1 << 63 // how far the least int64 is below nought
	if x.Neg && size <= lowest {
		return -int64(size), true
	}
	if !x.Neg && size < lowest {
		return int64(size), true
	}
	return 0, false
}

// Cmp tells whether x is below y (-1), the same (0) or above (1).
func Cmp(x, y Int) int {
	if !Right(x) || !Right(y) {
		return 0
	}
	if x.Neg != y.Neg {
		if x.Neg {
			return -1
		}
		return 1
	}
	if x.Neg {
		return compare(y.Mag, x.Mag)
	}
	return compare(x.Mag, y.Mag)
}

// compare holds the bytes of two numbers that can be against each other: as none begins with 0, the longer one is greater.
func compare(x, y []byte) int {
	if len(x) < len(y) {
		return -1
	}
	if len(x) > len(y) {
		return 1
	}
	return slices.Compare(x, y)
}

// Add is x and y.
func Add(x, y Int) (Int, api.Errno) {
	if !Right(x) || !Right(y) {
		return Int{}, api.ErrArg
	}
	return addSigned(x, y)
}

// Sub is x less y.
func Sub(x, y Int) (Int, api.Errno) {
	if !Right(x) || !Right(y) {
		return Int{}, api.ErrArg
	}
	y.Neg = !y.Neg
	return addSigned(x, y)
}

// addSigned adds two numbers, of which nought may have any sign.
func addSigned(x, y Int) (Int, api.Errno) {
	a, b := load(x.Mag), load(y.Mag)
	if x.Neg == y.Neg {
		s := sum(a, b)
		return pack(x.Neg, s[:])
	}
	if compare(x.Mag, y.Mag) < 0 {
		d := difference(b, a)
		return pack(y.Neg, d[:])
	}
	d := difference(a, b)
	return pack(x.Neg, d[:])
}

// Mul is x times y.
func Mul(x, y Int) (Int, api.Errno) {
	if !Right(x) || !Right(y) {
		return Int{}, api.ErrArg
	}
	p := product(load(x.Mag), load(y.Mag))
	return pack(x.Neg != y.Neg, p[:])
}

// Div is the greatest whole number that is not above x by y.
func Div(x, y Int) (Int, api.Errno) {
	quotient, _, err := divide(x, y)
	return quotient, err
}

// Mod is what is left by Div.
func Mod(x, y Int) (Int, api.Errno) {
	_, rest, err := divide(x, y)
	return rest, err
}

// divide is Div and Mod at once.
func divide(x, y Int) (quotient, rest Int, err api.Errno) {
	if !Right(x) || !Right(y) {
		return Int{}, Int{}, api.ErrArg
	}
	if len(y.Mag) == 0 {
		return Int{}, Int{}, api.ErrZero
	}
	by := load(y.Mag)
	q, r := quotientRest(load(x.Mag), by)
	// Below nought the whole number that is not above lies one further from nought.
	if x.Neg != y.Neg && r != (digits{}) {
		q = next(q)
		r = difference(by, r)
	}
	// Neither is longer than x or y, so that there is room for both.
	quotient, _ = pack(x.Neg != y.Neg, q[:])
	rest, _ = pack(y.Neg, r[:])
	return quotient, rest, api.OK
}
