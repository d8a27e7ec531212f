package number_test

import (
	"math"
	"math/big"
	"testing"

	"lapidary/api"
	"lapidary/number"
	"lapidary/whole"
)

var ops = []int{number.Plus, number.Minus, number.Times, number.Over, number.Div, number.Mod, number.Equal, number.Less}

// does asks that z comes of it, and nothing else.
func does(t *testing.T, op int, x, y, want number.Num) {
	t.Helper()
	z, is, err := number.Do(op, x, y)
	if err != api.OK || is || !number.Same(z, want) || !number.Right(z) {
		t.Errorf("Do(%d, %v, %v) = %v, %v, %d, not %v", op, x, y, z, is, err, want)
	}
}

// isSo asks for an answer, and nothing else.
func isSo(t *testing.T, op int, x, y number.Num, want bool) {
	t.Helper()
	z, is, err := number.Do(op, x, y)
	if err != api.OK || is != want || !isZero(z) {
		t.Errorf("Do(%d, %v, %v) = %v, %v, %d, not %v", op, x, y, z, is, err, want)
	}
}

// errs asks for an error, and nothing else.
func errs(t *testing.T, op int, x, y number.Num, want api.Errno) {
	t.Helper()
	z, is, err := number.Do(op, x, y)
	if err != want || is || !isZero(z) {
		t.Errorf("Do(%d, %v, %v) = %v, %v, %d, not the error %d", op, x, y, z, is, err, want)
	}
}

// P6.2: the constants stand by number in what is written elsewhere.
func TestOperations(t *testing.T) {
	for i, op := range ops {
		if i != op {
			t.Error("the operation", i, "is", op)
		}
	}
}

// P6.2, with the chapter's examples.
func TestComplexByHand(t *testing.T) {
	does(t, number.Times, pair(1, 2), pair(3, 4), pair(-5, 10))
	does(t, number.Over, pair(1, 0), pair(0, 1), pair(0, -1))
	does(t, number.Plus, of(7), pair(0, 1), pair(7, 1))
	does(t, number.Plus, pair(1, 2), pair(3, 5), pair(4, 7))
	does(t, number.Plus, pair(1, 2), of(-3), pair(-2, 2))
	does(t, number.Minus, pair(1, 2), pair(3, 5), pair(-2, -3))
	does(t, number.Minus, of(7), pair(0, 1), pair(7, -1))
	does(t, number.Minus, pair(0, 1), of(7), pair(-7, 1))
	does(t, number.Times, of(2), pair(3, -4), pair(6, -8))
	does(t, number.Times, pair(3, -4), of(-2), pair(-6, 8))
	does(t, number.Over, of(7), of(2), pair(3.5, 0))
	does(t, number.Over, of(6), of(3), pair(2, 0))
	does(t, number.Over, of(0), of(5), pair(0, 0))
	does(t, number.Over, of(1), of(3), pair(3.0/9.0, 0))
	does(t, number.Over, pair(3, 4), pair(1, 2), pair(11.0/5.0, -2.0/5.0))
	does(t, number.Over, pair(3, 4), of(2), pair(1.5, 2))
	does(t, number.Over, of(25), pair(3, 4), pair(3, -4))
}

// P6.2, where a part is nought, infinite or too small.
func TestComplexAtEdges(t *testing.T) {
	inf, nan := math.Inf(1), math.NaN()
	does(t, number.Plus, pair(0, minusNought()), pair(minusNought(), minusNought()), pair(0, minusNought()))
	// A whole number's second part is +0.
	does(t, number.Plus, of(0), pair(minusNought(), minusNought()), pair(0, 0))
	does(t, number.Minus, pair(1, minusNought()), of(0), pair(1, minusNought()))
	does(t, number.Minus, pair(minusNought(), 1), of(0), pair(minusNought(), 1))
	does(t, number.Plus, pair(inf, 1), pair(-inf, 1), pair(nan, 2))
	does(t, number.Times, pair(inf, 0), pair(1, 0), pair(inf, nan))
	does(t, number.Times, pair(inf, 1), pair(0, 1), pair(nan, inf))
	does(t, number.Times, pair(1e300, 0), pair(1e300, 1), pair(inf, 1e300))
	// The sum of c c and d d grows too great, or is nought, where Go's own quotient would be a plain one.
	does(t, number.Over, pair(1e200, 0), pair(1e200, 0), pair(nan, 0))
	does(t, number.Over, pair(1, 0), pair(1e200, 0), pair(0, 0))
	does(t, number.Over, pair(1, 0), pair(1e-200, 0), pair(inf, nan))
	does(t, number.Over, pair(inf, 0), pair(1, 0), pair(inf, nan))
	does(t, number.Over, pair(1, 1), pair(inf, 1), pair(nan, nan))
	does(t, number.Over, pair(1, 1), pair(nan, 0), pair(nan, nan))
	does(t, number.Over, of(1), pair(0, math.SmallestNonzeroFloat64), pair(nan, -inf))
}

// exact reckons with a float's full value, and rounds once.
func exact(f float64) *big.Float {
	return new(big.Float).SetPrec(4000).SetFloat64(f)
}

func rounded(f *big.Float) float64 {
	out, _ := f.Float64()
	return out
}

func mulRounded(a, b float64) float64 {
	return rounded(new(big.Float).SetPrec(4000).Mul(exact(a), exact(b)))
}

func addRounded(a, b float64) float64 {
	return rounded(new(big.Float).SetPrec(4000).Add(exact(a), exact(b)))
}

func overRounded(a, b float64) float64 {
	return rounded(new(big.Float).SetPrec(4000).Quo(exact(a), exact(b)))
}

// P6.2: each product, sum and quotient is rounded by itself.
func TestRoundedOneByOne(t *testing.T) {
	seed := uint64(5)
	next := func() float64 {
		seed = seed*6364136223846793005 + 1442695040888963407
		f := math.Ldexp(float64(seed>>11)+1, int(seed%40)-70)
		if seed>>20&1 == 0 {
			return -f
		}
		return f
	}
	near := 1 + 0x1p-30
	rows := [][4]float64{
		// What a product loses by rounding is all that is left, if it is not rounded.
		{near, 1, near, 1 + 0x1p-29}, {near, 1 - 0x1p-30, 1 + 0x1p-30, near}, {near, near, near, near}, {near, near, -near, near},
	}
	for range 4000 {
		rows = append(rows, [4]float64{next(), next(), next(), next()})
	}
	for _, r := range rows {
		a, b, c, d := r[0], r[1], r[2], r[3]
		x, y := pair(a, b), pair(c, d)
		does(t, number.Plus, x, y, pair(addRounded(a, c), addRounded(b, d)))
		does(t, number.Minus, x, y, pair(addRounded(a, -c), addRounded(b, -d)))
		does(t, number.Times, x, y, pair(addRounded(mulRounded(a, c), -mulRounded(b, d)), addRounded(mulRounded(a, d), mulRounded(b, c))))
		n := addRounded(mulRounded(c, c), mulRounded(d, d))
		re := overRounded(addRounded(mulRounded(a, c), mulRounded(b, d)), n)
		im := overRounded(addRounded(mulRounded(b, c), -mulRounded(a, d)), n)
		does(t, number.Over, x, y, pair(re, im))
	}
}

// P6.2, of two whole numbers.
func TestWholes(t *testing.T) {
	list := wholes()
	for _, a := range list {
		for _, b := range list {
			x, y := from(a), from(b)
			wholeDoes(t, number.Plus, a, b, new(big.Int).Add(a, b))
			wholeDoes(t, number.Minus, a, b, new(big.Int).Sub(a, b))
			wholeDoes(t, number.Times, a, b, new(big.Int).Mul(a, b))
			isSo(t, number.Equal, x, y, a.Cmp(b) == 0)
			isSo(t, number.Less, x, y, a.Cmp(b) < 0)
			if b.Sign() == 0 {
				errs(t, number.Div, x, y, api.ErrZero)
				errs(t, number.Mod, x, y, api.ErrZero)
				continue
			}
			q, r := new(big.Int).QuoRem(a, b, new(big.Int))
			if r.Sign() != 0 && r.Sign() != b.Sign() {
				q.Sub(q, big.NewInt(1))
				r.Add(r, b)
			}
			wholeDoes(t, number.Div, a, b, q)
			wholeDoes(t, number.Mod, a, b, r)
		}
	}
	does(t, number.Div, of(-7), of(2), of(-4))
	does(t, number.Mod, of(-7), of(2), of(1))
	does(t, number.Mod, of(7), of(-2), of(-1))
}

// wholeDoes asks for that number, or, beyond the greatest one, for ErrLarge.
func wholeDoes(t *testing.T, op int, a, b, want *big.Int) {
	t.Helper()
	if want.BitLen() > 8*api.MaxDigits {
		errs(t, op, from(a), from(b), api.ErrLarge)
		return
	}
	does(t, op, from(a), from(b), from(want))
}

// P6.2: a whole number that is no int64 is no complex one.
func TestWholesThatAreTooLarge(t *testing.T) {
	least, most := from(big.NewInt(math.MinInt64)), from(big.NewInt(math.MaxInt64))
	does(t, number.Plus, least, pair(0, 1), pair(-(1<<63), 1))
	does(t, number.Plus, pair(0, 1), most, pair(1<<63, 1))
	does(t, number.Over, least, most, pair(-1, 0))
	below := new(big.Int).Neg(power(63, 1))
	for _, large := range []number.Num{from(power(63, 0)), from(below), from(power(64, 0)), from(power(1024, -1))} {
		for _, op := range []int{number.Plus, number.Minus, number.Times, number.Over} {
			errs(t, op, large, pair(1, 1), api.ErrLarge)
			errs(t, op, pair(1, 1), large, api.ErrLarge)
		}
		errs(t, number.Over, large, of(1), api.ErrLarge)
		errs(t, number.Over, of(1), large, api.ErrLarge)
		errs(t, number.Over, large, large, api.ErrLarge)
		// ErrLarge is named ahead of ErrZero.
		errs(t, number.Over, large, of(0), api.ErrLarge)
		errs(t, number.Over, large, pair(0, 0), api.ErrLarge)
		for _, c := range []number.Num{pair(0, 0), pair(1, 1), pair(1<<63, 0), pair(-(1 << 63), 0), pair(1<<64, 0), pair(math.Inf(1), 0)} {
			isSo(t, number.Equal, large, c, false)
			isSo(t, number.Equal, c, large, false)
		}
		isSo(t, number.Equal, large, large, true)
	}
}

// P6.2: by nought.
func TestByNought(t *testing.T) {
	noughts := []number.Num{of(0), pair(0, 0), pair(minusNought(), 0), pair(0, minusNought()), pair(minusNought(), minusNought())}
	for _, y := range noughts {
		for _, x := range []number.Num{of(0), of(7), pair(1, 2), pair(0, 0), pair(math.NaN(), 1), pair(math.Inf(1), 0)} {
			errs(t, number.Over, x, y, api.ErrZero)
		}
	}
	does(t, number.Over, pair(0, 0), pair(0, 1), pair(0, 0))
	does(t, number.Over, pair(0, 1), pair(0, 1), pair(1, 0))
}

// P6.2: what asks for whole numbers.
func TestOfWholesAlone(t *testing.T) {
	for _, op := range []int{number.Div, number.Mod, number.Less} {
		for _, c := range []number.Num{pair(1, 1), pair(4, 0), pair(0, 0), pair(math.NaN(), 0)} {
			for _, x := range []number.Num{of(7), of(0), from(power(100, 0)), pair(2, 0), c} {
				errs(t, op, x, c, api.ErrKind)
				errs(t, op, c, x, api.ErrKind)
			}
		}
	}
}

// P6.2
func TestWrongArguments(t *testing.T) {
	rights := []number.Num{of(0), of(5), from(power(100, 0)), pair(1, 2), pair(0, 0)}
	for _, op := range append([]int{-1, 8, math.MinInt, math.MaxInt, 256}, ops...) {
		for _, x := range wrong() {
			for _, y := range append(wrong(), rights...) {
				errs(t, op, x, y, api.ErrArg)
				errs(t, op, y, x, api.ErrArg)
			}
		}
	}
	for _, op := range []int{-1, 8, 9, 255, 256, 1 << 32, math.MinInt, math.MaxInt} {
		for _, x := range rights {
			for _, y := range rights {
				errs(t, op, x, y, api.ErrArg)
			}
		}
	}
}

// P6.2, P6.6
func TestEqual(t *testing.T) {
	nan, inf := math.NaN(), math.Inf(1)
	rows := []struct {
		x, y number.Num
		want bool
	}{
		{of(7), pair(7, 0), true}, {of(7), pair(7, minusNought()), true}, {of(7), pair(7, 1), false}, {of(7), pair(8, 0), false}, {of(-7), pair(7, 0), false},
		{of(0), pair(minusNought(), minusNought()), true}, {pair(0, 0), pair(minusNought(), 0), true}, {pair(0, 0), pair(0, minusNought()), true},
		{pair(1, 2), pair(1, 2), true}, {pair(1, 2), pair(2, 1), false}, {pair(inf, 1), pair(inf, 1), true}, {pair(inf, 1), pair(-inf, 1), false},
		{pair(nan, 0), pair(nan, 0), false}, {pair(0, nan), pair(0, nan), false}, {pair(nan, 0), of(0), false}, {pair(nan, nan), pair(1, 1), false},
		// The float nearest to it is the same, though it is another number.
		{from(power(53, 1)), pair(1<<53, 0), true}, {from(power(53, 1)), from(power(53, 0)), false},
		{from(big.NewInt(math.MaxInt64)), pair(1<<63, 0), true},
	}
	for _, r := range rows {
		isSo(t, number.Equal, r.x, r.y, r.want)
		isSo(t, number.Equal, r.y, r.x, r.want)
	}
	for _, x := range numbers() {
		isSo(t, number.Equal, x, pair(nan, 1), false)
		isSo(t, number.Equal, pair(1, nan), x, false)
	}
}

// P6.4
func TestEitherWayRound(t *testing.T) {
	list := numbers()
	for i, x := range list {
		for _, y := range list[i:] {
			for _, op := range []int{number.Plus, number.Times} {
				a, _, e1 := number.Do(op, x, y)
				b, _, e2 := number.Do(op, y, x)
				if e1 != e2 || !number.Same(a, b) {
					t.Fatalf("Do(%d) of %v and %v: %v, %d, and %v, %d", op, x, y, a, e1, b, e2)
				}
			}
		}
		if !x.Pair {
			does(t, number.Minus, x, x, number.Num{I: whole.Int{}})
		}
	}
}

// P7: every call is answered, and what it answers can be.
func TestAnyNumbersAreAnswered(t *testing.T) {
	list := numbers()
	for _, op := range append([]int{-1, 8}, ops...) {
		for i, x := range list {
			y := list[(i*i+7*op+14)%len(list)]
			z, is, err := number.Do(op, x, y)
			if !number.Right(z) || err != api.OK && (is || !isZero(z)) {
				t.Fatalf("Do(%d, %v, %v) = %v, %v, %d", op, x, y, z, is, err)
			}
		}
	}
}
