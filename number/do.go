package number

import (
	"lapidary/api"
	"lapidary/whole"
)

// The operations.
const (
	Plus  = 0
	Minus = 1
	Times = 2
	Over  = 3 // complex
	Div   = 4 // of whole numbers
	Mod   = 5
	Equal = 6
	Less  = 7 // of whole numbers
)

// Do is an operation on two: a number, or (of Equal, Less) whether it is so.
func Do(op int, x, y Num) (Num, bool, api.Errno) {
	if !Right(x) || !Right(y) {
		return Num{}, false, api.ErrArg
	}
	bothWhole := !x.Pair && !y.Pair
	switch op {
	case Plus, Minus, Times:
		if bothWhole {
			z, err := doWhole(op, x.I, y.I)
			return z, false, err
		}
		fallthrough
	case Over:
		z, err := doComplex(op, x, y)
		return z, false, err
	case Div, Mod:
		if !bothWhole {
			return Num{}, false, api.ErrKind
		}
		z, err := doWhole(op, x.I, y.I)
		return z, false, err
	case Equal:
		return Num{}, equal(x, y), api.OK
	case Less:
		if !bothWhole {
			return Num{}, false, api.ErrKind
		}
		return Num{}, whole.Cmp(x.I, y.I) < 0, api.OK
	}
	return Num{}, false, api.ErrArg
}

func doWhole(op int, x, y whole.Int) (Num, api.Errno) {
	var z whole.Int
	err := api.ErrArg
	switch op {
	case Plus:
		z, err = whole.Add(x, y)
	case Minus:
		z, err = whole.Sub(x, y)
	case Times:
		z, err = whole.Mul(x, y)
	case Div:
		z, err = whole.Div(x, y)
	case Mod:
		z, err = whole.Mod(x, y)
	}
	return Num{I: z}, err
}

func doComplex(op int, x, y Num) (Num, api.Errno) {
	a, err := asComplex(x)
	if err != api.OK {
		return Num{}, err
	}
	b, err := asComplex(y)
	if err != api.OK {
		return Num{}, err
	}
	var c complex128
	switch op {
	case Plus:
		c = a + b
	case Minus:
		c = a - b
	case Times:
		c = times(a, b)
	case Over:
		if b == 0 {
			return Num{}, api.ErrZero
		}
		c = over(a, b)
	}
	return Num{Pair: true, C: c}, api.OK
}

// times is not Go's *: each product is converted, so that no machine may add to it ahead of rounding it.
func times(x, y complex128) complex128 {
	a, b, c, d := real(x), imag(x), real(y), imag(y)
	re := float64(a*c) - float64(b*d)
	im := float64(a*d) + float64(b*c)
	return complex(re, im)
}

// over is not Go's /, which scales by the greater part first, and so rounds otherwise; its products are rounded as those of times.
func over(x, y complex128) complex128 {
	a, b, c, d := real(x), imag(x), real(y), imag(y)
	n := float64(c*c) + float64(d*d)
	re := float64(a*c) + float64(b*d)
	im := float64(b*c) - float64(a*d)
	return complex(re/n, im/n)
}

// equal takes numbers that can be. A whole one that is too large for a float is not the same as any complex one.
func equal(x, y Num) bool {
	if !x.Pair && !y.Pair {
		return whole.Cmp(x.I, y.I) == 0
	}
	a, err := asComplex(x)
	if err != api.OK {
		return false
	}
	b, err := asComplex(y)
	return err == api.OK && a == b
}
