package whole

import "math/bits"

// shifted is digits that were shifted by less than one of them.
type shifted [words + 1]uint32

func shiftLeft(x digits, by int) shifted {
	var s shifted
	var carry uint64
	for i := range words {
		carry |= uint64(x[i]) << by
		s[i] = uint32(carry)
		carry >>= wordBits
	}
	s[words] = uint32(carry)
	return s
}

// shiftRight undoes shiftLeft.
func shiftRight(s shifted, by int) digits {
	var x digits
	for i := range words {
		pair := uint64(s[i+1])<<wordBits | uint64(s[i])
		x[i] = uint32(pair >> by)
	}
	return x
}

// quotientRest divides x by y, which is not 0, digit by digit from the highest one on, as by hand.
func quotientRest(x, y digits) (quotient, rest digits) {
	n, m := used(y[:]), used(x[:])
	if n == 1 {
		rest[0] = divideShort(x[:m], y[0])
		return x, rest
	}
	// With the highest bit of y's highest digit set, a guess by two digits is too great by one at most.
	by := bits.LeadingZeros32(y[n-1])
	left, taken := shiftLeft(x, by), shiftLeft(y, by)
	for i := range max(m-n+1, 0) {
		at := m - n - i
		quotient[at] = quotientDigit(left[at:at+n+1], taken[:n])
	}
	return quotient, shiftRight(left, by)
}

// quotientDigit takes y from x as often as it goes, and answers how often; x has one digit more than y, which has two or more.
func quotientDigit(x, y []uint32) uint32 {
	n := len(y)
	often := guess([3]uint32{x[n], x[n-1], x[n-2]}, [2]uint32{y[n-1], y[n-2]})
	if takeAway(x, y, often) {
		often--
		putBack(x, y)
	}
	return often
}

// guess is how often y goes into x, by the highest digits of both: right, or one too many.
func guess(x [3]uint32, y [2]uint32) uint32 {
	const base = 1 << wordBits
	high := uint64(x[0])<<wordBits | uint64(x[1])
	often, rest := high/uint64(y[0]), high%uint64(y[0])
	for rest < base && (often >= base || often*uint64(y[1]) > rest<<wordBits|uint64(x[2])) {
		often--
		rest += uint64(y[0])
	}
	return uint32(often)
}

// takeAway takes y so many times from x, and tells whether that was more than there is.
func takeAway(x, y []uint32, times uint32) bool {
	n := len(y)
	var carry, borrow uint64
	for i := range n {
		carry += uint64(y[i]) * uint64(times)
		v := uint64(x[i]) - carry&(1<<wordBits-1) - borrow
		x[i] = uint32(v)
		borrow = v >> 63
		carry >>= wordBits
	}
	v := uint64(x[n]) - carry - borrow
	x[n] = uint32(v)
	return v>>63 == 1
}

// putBack adds y to x once more; what is carried out makes up for what was lent.
func putBack(x, y []uint32) {
	n := len(y)
	var carry uint64
	for i := range n {
		carry += uint64(x[i]) + uint64(y[i])
		x[i] = uint32(carry)
		carry >>= wordBits
	}
	x[n] += uint32(carry)
}
