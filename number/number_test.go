package number_test

import (
	"bytes"
	"math"
	"math/big"
	"slices"
	"testing"

	"lapidary/api"
	"lapidary/number"
	"lapidary/whole"
)

func of(n int64) number.Num {
	return number.Num{I: whole.Of(n)}
}

func pair(re, im float64) number.Num {
	return number.Num{Pair: true, C: complex(re, im)}
}

// from is a whole number of math/big's.
func from(n *big.Int) number.Num {
	return number.Num{I: whole.Int{Neg: n.Sign() < 0, Mag: n.Bytes()}}
}

// power is 2^bits and off.
func power(bits uint, off int64) *big.Int {
	n := new(big.Int).Lsh(big.NewInt(1), bits)
	return n.Add(n, big.NewInt(off))
}

// isZero tells whether x is Num's zero value (but for an empty list).
func isZero(x number.Num) bool {
	return !x.Pair && !x.I.Neg && len(x.I.Mag) == 0 && math.Float64bits(real(x.C)) == 0 && math.Float64bits(imag(x.C)) == 0
}

func minusNought() float64 { return math.Copysign(0, -1) }

// floats are those at an edge, of both signs, and NaN of several bits.
func floats() []float64 {
	out := []float64{math.NaN(), math.Float64frombits(0xfff8000000000000), math.Float64frombits(0x7ff0000000000001), math.Float64frombits(0xffffffffffffffff)}
	for _, f := range []float64{0, 0.25, 0.5, 1, 1.5, 2, 3, 7, 1 << 53, 1 << 62, 1 << 63, 1e300, 1e-300, math.MaxFloat64, math.SmallestNonzeroFloat64, math.Inf(1), 1 + 0x1p-52, 0x1p-1022} {
		out = append(out, f, -f)
	}
	return append(out, minusNought())
}

// wholes are those at an edge, of both signs, and those beside them.
func wholes() []*big.Int {
	out := []*big.Int{big.NewInt(0), big.NewInt(7), big.NewInt(-7), big.NewInt(1000000007)}
	for _, bits := range []uint{0, 1, 8, 53, 54, 60, 62, 63, 64, 100, 511, 1000, 1023} {
		for off := int64(-1); off <= 1; off++ {
			out = append(out, power(bits, off), new(big.Int).Neg(power(bits, off)))
		}
	}
	return append(out, power(1024, -1), new(big.Int).Neg(power(1024, -1)))
}

// numbers are of both kinds, and all can be.
func numbers() []number.Num {
	var out []number.Num
	for _, n := range wholes() {
		out = append(out, from(n))
	}
	for _, f := range floats() {
		for _, g := range []float64{0, minusNought(), 1, -2.5, math.NaN(), math.Inf(-1), 1e200, f} {
			out = append(out, pair(f, g), pair(g, f))
		}
	}
	return out
}

// wrong are numbers that can not be, each for one reason.
func wrong() []number.Num {
	long := make([]byte, api.MaxDigits+1)
	long[0] = 1
	var out []number.Num
	for _, i := range []whole.Int{{Neg: true}, {Mag: []byte{0}}, {Neg: true, Mag: []byte{0}}, {Mag: []byte{0, 1}}, {Mag: long}, {Neg: true, Mag: long}} {
		out = append(out, number.Num{I: i}, number.Num{Pair: true, I: i}, number.Num{Pair: true, I: i, C: 1})
	}
	for _, c := range []complex128{1, 1i, complex(minusNought(), 0), complex(0, minusNought()), complex(math.NaN(), 0), complex(0, math.NaN()), complex(math.Inf(1), 0), complex(0, math.SmallestNonzeroFloat64)} {
		out = append(out, number.Num{C: c}, number.Num{I: whole.Of(5), C: c})
	}
	return append(out, number.Num{Pair: true, I: whole.Of(1)}, number.Num{Pair: true, I: whole.Of(-1), C: 2})
}

// P6.1
func TestRight(t *testing.T) {
	for i, x := range wrong() {
		if number.Right(x) {
			t.Error("Right of a wrong one", i, x)
		}
	}
	for _, x := range append(numbers(), number.Num{}, number.Num{I: whole.Int{Mag: []byte{}}}, number.Num{Pair: true, I: whole.Int{Mag: []byte{}}}) {
		if !number.Right(x) {
			t.Error("not Right", x)
		}
	}
}

// P6.1
func TestSame(t *testing.T) {
	nan, other := math.NaN(), math.Float64frombits(0xfff8000000000123)
	rows := []struct {
		x, y number.Num
		want bool
	}{
		{of(0), number.Num{I: whole.Int{Mag: []byte{}}}, true},
		{of(5), of(5), true}, {of(5), of(-5), false}, {of(5), of(6), false}, {of(1), of(256), false},
		{of(5), pair(5, 0), false}, {of(0), pair(0, 0), false}, {of(0), number.Num{Pair: true}, false},
		{pair(1, 2), pair(1, 2), true}, {pair(1, 2), pair(2, 1), false}, {pair(1, 2), pair(1, 3), false}, {pair(1, 2), pair(3, 2), false},
		{pair(0, 0), pair(minusNought(), 0), false}, {pair(0, 0), pair(0, minusNought()), false},
		{pair(minusNought(), 1), pair(minusNought(), 1), true},
		{pair(nan, 1), pair(other, 1), true}, {pair(1, nan), pair(1, other), true}, {pair(nan, other), pair(other, nan), true},
		{pair(nan, 1), pair(nan, 2), false}, {pair(nan, 1), pair(1, nan), false}, {pair(nan, 1), pair(1, 1), false}, {pair(1, 1), pair(1, nan), false},
		{pair(math.Inf(1), 0), pair(math.Inf(1), 0), true}, {pair(math.Inf(1), 0), pair(math.Inf(-1), 0), false}, {pair(math.Inf(1), 0), pair(nan, 0), false},
		{pair(1, 0), pair(1+0x1p-52, 0), false},
	}
	for _, r := range rows {
		if number.Same(r.x, r.y) != r.want || number.Same(r.y, r.x) != r.want {
			t.Errorf("Same(%v, %v) is not %v", r.x, r.y, r.want)
		}
	}
	list := wholes()
	for _, a := range list {
		for _, b := range list {
			if number.Same(from(a), from(b)) != (a.Cmp(b) == 0) {
				t.Errorf("Same(%d, %d)", a, b)
			}
		}
	}
	for i, x := range append(numbers(), wrong()...) {
		if !number.Same(x, x) {
			t.Error("not the Same as itself", i, x)
		}
	}
}

// nearest is the float nearest to n, by another way than Go's conversion.
func nearest(n *big.Int) float64 {
	f, _ := new(big.Float).SetPrec(53).SetMode(big.ToNearestEven).SetInt(n).Float64()
	return f
}

// P6.1
func TestPair(t *testing.T) {
	if x, err := number.Pair(whole.Of(1), whole.Of(-2)); err != api.OK || !x.Pair || x.C != complex(1, -2) || !number.Right(x) {
		t.Error("Pair(1, -2)", x, err)
	}
	list := append(wholes(), power(53, 3), power(54, 2), power(54, 6), power(60, 127), power(60, 128), power(60, 129), power(60, 384))
	for _, re := range list {
		for _, im := range list {
			x, err := number.Pair(from(re).I, from(im).I)
			if !re.IsInt64() || !im.IsInt64() {
				if err != api.ErrLarge || !isZero(x) {
					t.Errorf("Pair(%d, %d) = %v, %d", re, im, x, err)
				}
				continue
			}
			if err != api.OK || !number.Same(x, pair(nearest(re), nearest(im))) || !number.Right(x) {
				t.Errorf("Pair(%d, %d) = %v, %d", re, im, x, err)
			}
		}
	}
	// Nought is +0 in both parts.
	if x, err := number.Pair(whole.Int{}, whole.Int{}); err != api.OK || !number.Same(x, pair(0, 0)) {
		t.Error("Pair(0, 0)", x, err)
	}
	large := from(power(63, 0)).I
	for i, w := range []whole.Int{{Neg: true}, {Mag: []byte{0}}, {Mag: []byte{0, 7}}, {Mag: bytes.Repeat([]byte{1}, api.MaxDigits+1)}} {
		for _, other := range []whole.Int{whole.Of(1), large, w} {
			if x, err := number.Pair(w, other); err != api.ErrArg || !isZero(x) {
				t.Error("Pair of a wrong one ahead", i, x, err)
			}
			if x, err := number.Pair(other, w); err != api.ErrArg || !isZero(x) {
				t.Error("Pair of a wrong one behind", i, x, err)
			}
		}
	}
}

// P6.1
func TestPartsOfComplexNumbers(t *testing.T) {
	below := math.Nextafter(1<<62, 0)
	rows := []struct {
		part float64
		want int64
		err  api.Errno
	}{
		{0, 0, api.OK}, {minusNought(), 0, api.OK}, {1, 1, api.OK}, {-5, -5, api.OK},
		{0.999, 0, api.OK}, {-0.999, 0, api.OK}, {1.5, 1, api.OK}, {-1.5, -1, api.OK}, {2.5, 2, api.OK}, {-2.5, -2, api.OK}, {1e-300, 0, api.OK},
		{1<<53 + 2, 1<<53 + 2, api.OK}, {1<<52 + 0.5, 1 << 52, api.OK}, {-(1<<52 + 0.5), -(1 << 52), api.OK},
		{below, 1<<62 - 512, api.OK}, {-below, -(1<<62 - 512), api.OK},
		{1 << 62, 0, api.ErrLarge}, {-(1 << 62), 0, api.ErrLarge}, {1 << 63, 0, api.ErrLarge}, {-(1 << 63), 0, api.ErrLarge}, {1e300, 0, api.ErrLarge}, {-math.MaxFloat64, 0, api.ErrLarge},
		{math.NaN(), 0, api.ErrKind}, {math.Float64frombits(0xfff0000000000001), 0, api.ErrKind}, {math.Inf(1), 0, api.ErrKind}, {math.Inf(-1), 0, api.ErrKind},
	}
	for _, r := range rows {
		// The other part plays no role.
		for _, other := range []float64{0, 7, math.NaN(), math.Inf(1), 1e300} {
			if x, err := number.Re(pair(r.part, other)); err != r.err || !number.Same(x, of(r.want)) || !number.Right(x) {
				t.Errorf("Re(%v, %v) = %v, %d", r.part, other, x, err)
			}
			if x, err := number.Im(pair(other, r.part)); err != r.err || !number.Same(x, of(r.want)) || !number.Right(x) {
				t.Errorf("Im(%v, %v) = %v, %d", other, r.part, x, err)
			}
		}
	}
}

// P6.1
func TestPartsOfOthers(t *testing.T) {
	for _, n := range wholes() {
		if x, err := number.Re(from(n)); err != api.OK || !number.Same(x, from(n)) || !number.Right(x) {
			t.Errorf("Re(%d) = %v, %d", n, x, err)
		}
		if x, err := number.Im(from(n)); err != api.OK || !isZero(x) {
			t.Errorf("Im(%d) = %v, %d", n, x, err)
		}
	}
	for i, x := range wrong() {
		if y, err := number.Re(x); err != api.ErrArg || !isZero(y) {
			t.Error("Re of a wrong one", i, y, err)
		}
		if y, err := number.Im(x); err != api.ErrArg || !isZero(y) {
			t.Error("Im of a wrong one", i, y, err)
		}
	}
}

// P6.3, P6.5
func TestPutIsReadAsItWas(t *testing.T) {
	rows := []struct {
		x    number.Num
		want string
	}{
		{of(0), "\x00"}, {of(1), "\x00\x01"}, {of(-1), "\x01\x01"}, {of(256), "\x00\x01\x00"}, {of(-300), "\x01\x01\x2c"},
		{pair(0, 0), "\x02\x00\x00\x00\x00\x00\x00\x00\x00\x00\x00\x00\x00\x00\x00\x00\x00"},
		{pair(1, -2), "\x02\x3f\xf0\x00\x00\x00\x00\x00\x00\xc0\x00\x00\x00\x00\x00\x00\x00"},
		{pair(minusNought(), math.Inf(1)), "\x02\x80\x00\x00\x00\x00\x00\x00\x00\x7f\xf0\x00\x00\x00\x00\x00\x00"},
		{pair(math.Float64frombits(0x7ff0123456789abc), math.Float64frombits(0xfffedcba98765432)), "\x02\x7f\xf0\x12\x34\x56\x78\x9a\xbc\xff\xfe\xdc\xba\x98\x76\x54\x32"},
	}
	for _, r := range rows {
		if b, err := number.Put(r.x); string(b) != r.want || err != api.OK {
			t.Errorf("Put(%v) = %x, %d", r.x, b, err)
		}
	}
	for _, x := range numbers() {
		b, err := number.Put(x)
		if err != api.OK {
			t.Errorf("Put(%v): %d", x, err)
		}
		got, err := number.Get(b)
		if err != api.OK || !number.Same(got, x) || !number.Right(got) {
			t.Errorf("Get(Put(%v)) = %v, %d", x, got, err)
		}
		// Of NaN all bits are as they are, which Same does not ask.
		if math.Float64bits(real(got.C)) != math.Float64bits(real(x.C)) || math.Float64bits(imag(got.C)) != math.Float64bits(imag(x.C)) {
			t.Errorf("Get(Put(%v)) has other bits", x)
		}
	}
	for i, x := range wrong() {
		if b, err := number.Put(x); err != api.ErrArg || len(b) != 0 {
			t.Errorf("Put of the wrong one %d: %x, %d", i, b, err)
		}
	}
}

// P6.3
func TestGetTellsFaults(t *testing.T) {
	most := bytes.Repeat([]byte{255}, api.MaxDigits)
	rows := []struct {
		name string
		b    []byte
	}{
		{"nothing", nil},
		{"nought below nought", []byte{1}},
		{"a first byte of nought", []byte{0, 0}}, {"the same below nought", []byte{1, 0}},
		{"a first byte of nought, more behind", []byte{0, 0, 1}},
		{"too many bytes", slices.Concat([]byte{0}, most, []byte{1})},
		{"too many bytes below nought", slices.Concat([]byte{1}, most, []byte{1})},
		{"very many bytes", append([]byte{0}, bytes.Repeat([]byte{9}, 100000)...)},
		{"no parts", []byte{2}},
		{"a byte too few", append([]byte{2}, make([]byte, 15)...)},
		{"a byte too many", append([]byte{2}, make([]byte, 17)...)},
		{"one part", append([]byte{2}, make([]byte, 8)...)},
		{"the kind 3", []byte{3}}, {"the kind 3, with a byte", []byte{3, 1}},
		{"the kind 3, with two parts", append([]byte{3}, make([]byte, 16)...)},
		{"the kind 255", append([]byte{255}, make([]byte, 16)...)},
		{"the kind 128", []byte{128, 1}},
	}
	for _, r := range rows {
		if x, err := number.Get(r.b); err != api.ErrForm || !isZero(x) {
			t.Errorf("Get of %s: %v, %d", r.name, x, err)
		}
	}
	for _, sign := range []byte{0, 1} {
		b := append([]byte{sign}, most...)
		if x, err := number.Get(b); err != api.OK || x.Pair || x.I.Neg != (sign == 1) || !bytes.Equal(x.I.Mag, most) {
			t.Errorf("Get of the most bytes: %v, %d", x, err)
		}
	}
}

// P6.5, P7: whatever the bytes are, the call ends, and what is read is what is written.
func TestAnyBytesAreAnswered(t *testing.T) {
	seed := uint32(1)
	for round := range 20000 {
		b := make([]byte, round%140)
		for i := range b {
			seed = seed*1664525 + 1013904223
			b[i] = byte(seed >> 24)
		}
		if len(b) > 0 && round%3 != 0 {
			b[0] %= 4
		}
		x, err := number.Get(b)
		if err != api.OK {
			if err != api.ErrForm || !isZero(x) {
				t.Fatalf("Get(%x) = %v, %d", b, x, err)
			}
			continue
		}
		if again, err := number.Put(x); err != api.OK || !bytes.Equal(again, b) {
			t.Fatalf("Put(Get(%x)) = %x, %d", b, again, err)
		}
	}
}

// The rules 4 and 5: no argument is changed or kept, and no answer shares memory with it.
func TestAnswersAreNewMemory(t *testing.T) {
	calls := []struct {
		name string
		call func(x number.Num) number.Num
	}{
		{"Re", func(x number.Num) number.Num { y, _ := number.Re(x); return y }},
		{"Plus 0", func(x number.Num) number.Num { y, _, _ := number.Do(number.Plus, x, of(0)); return y }},
		{"0 Plus", func(x number.Num) number.Num { y, _, _ := number.Do(number.Plus, of(0), x); return y }},
		{"Minus 0", func(x number.Num) number.Num { y, _, _ := number.Do(number.Minus, x, of(0)); return y }},
		{"Times 1", func(x number.Num) number.Num { y, _, _ := number.Do(number.Times, x, of(1)); return y }},
		{"Div 1", func(x number.Num) number.Num { y, _, _ := number.Do(number.Div, x, of(1)); return y }},
		{"Mod", func(x number.Num) number.Num { y, _, _ := number.Do(number.Mod, x, of(1<<50)); return y }},
	}
	const n = 123456789012
	for _, c := range calls {
		backing := append(of(n).I.Mag, "behind"...)
		was := slices.Clone(backing)
		x := number.Num{I: whole.Int{Mag: backing[:len(backing)-len("behind")]}}
		first, second := c.call(x), c.call(x)
		clear(first.I.Mag)
		_ = append(first.I.Mag, 9, 9, 9)
		if !bytes.Equal(backing, was) {
			t.Errorf("%s: its argument is changed", c.name)
		}
		clear(backing)
		if !number.Same(second, of(n)) {
			t.Errorf("%s: what it answers hangs on memory of others", c.name)
		}
	}
	x := of(n)
	b, _ := number.Put(x)
	clear(b)
	_ = append(b, 1, 2, 3)
	if !number.Same(x, of(n)) {
		t.Error("Put shares memory")
	}
	b, _ = number.Put(x)
	first, _ := number.Get(b)
	second, _ := number.Get(b)
	clear(first.I.Mag)
	if again, _ := number.Get(b); !number.Same(again, x) {
		t.Error("Get shares memory")
	}
	clear(b)
	if !number.Same(second, x) {
		t.Error("Get keeps its argument")
	}
}
