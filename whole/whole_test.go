package whole_test

import (
	"bytes"
	"math"
	"math/big"
	"slices"
	"strings"
	"testing"

	"lapidary/api"
	"lapidary/whole"
)

// far is the first number beyond those that can be.
func far() *big.Int {
	return new(big.Int).Lsh(big.NewInt(1), 8*api.MaxDigits)
}

func from(n *big.Int) whole.Int {
	return whole.Int{Neg: n.Sign() < 0, Mag: n.Bytes()}
}

func to(x whole.Int) *big.Int {
	n := new(big.Int).SetBytes(x.Mag)
	if x.Neg {
		n.Neg(n)
	}
	return n
}

func same(x, y whole.Int) bool {
	return x.Neg == y.Neg && bytes.Equal(x.Mag, y.Mag)
}

// source is numbers by turns, always the same ones.
type source uint64

func (s *source) next(below int) int {
	*s = *s*6364136223846793005 + 1442695040888963407
	return int(uint64(*s)>>33) % below
}

// number is one of up to 128 bytes, many of them 0 or 255, so that much is carried and lent.
func (s *source) number() *big.Int {
	b := make([]byte, s.next(api.MaxDigits+1))
	edges := []byte{0, 0, 0, 1, 127, 128, 254, 255, 255, 255}
	plain := s.next(2) == 0
	run := byte(0)
	for i := range b {
		switch {
		case plain:
			b[i] = byte(s.next(256))
		case i%4 == 0 || s.next(4) == 0:
			run = edges[s.next(len(edges))]
			b[i] = run
		default:
			b[i] = run
		}
	}
	n := new(big.Int).SetBytes(b)
	if s.next(2) == 0 {
		n.Neg(n)
	}
	return n
}

// numbers are nought, powers of two and what is beside them, and the greatest; of both signs.
func numbers() []*big.Int {
	out := []*big.Int{big.NewInt(0), big.NewInt(7), big.NewInt(-7), big.NewInt(10), big.NewInt(1000000000)}
	for _, bits := range []uint{0, 1, 7, 8, 15, 16, 31, 32, 33, 62, 63, 64, 65, 95, 96, 127, 128, 255, 511, 512, 1000, 1016, 1022, 1023, 1024} {
		for off := int64(-1); off <= 1; off++ {
			n := new(big.Int).Lsh(big.NewInt(1), bits)
			n.Add(n, big.NewInt(off))
			if n.Cmp(far()) < 0 {
				out = append(out, n, new(big.Int).Neg(n))
			}
		}
	}
	return out
}

// pairs are all of the numbers with each other, and many others.
func pairs(yield func(a, b *big.Int) bool) {
	list := numbers()
	for _, a := range list {
		for _, b := range list {
			if !yield(a, b) {
				return
			}
		}
	}
	s := source(1)
	for range 6000 {
		if !yield(s.number(), s.number()) {
			return
		}
	}
}

// wrong are numbers that can not be.
func wrong() []whole.Int {
	long := make([]byte, api.MaxDigits+1)
	long[0] = 1
	return []whole.Int{
		{Neg: true},
		{Neg: true, Mag: []byte{}},
		{Mag: []byte{0}},
		{Neg: true, Mag: []byte{0}},
		{Mag: []byte{0, 1}},
		{Mag: long},
		{Neg: true, Mag: long},
		{Mag: make([]byte, 5000)},
	}
}

// P2.1
func TestRight(t *testing.T) {
	for i, x := range wrong() {
		if whole.Right(x) {
			t.Error("Right of a wrong one", i)
		}
	}
	for _, n := range numbers() {
		if !whole.Right(from(n)) {
			t.Error("Right", n)
		}
	}
	for _, x := range []whole.Int{{}, {Mag: []byte{}}, {Neg: true, Mag: []byte{1, 0}}} {
		if !whole.Right(x) {
			t.Error("Right", x)
		}
	}
}

// P2.1
func TestOfAndSmall(t *testing.T) {
	for _, n := range []int64{0, 1, -1, 127, 255, 256, -256, 1<<32 - 1, 1 << 32, -1 << 32, api.Small, -api.Small, math.MaxInt64, math.MinInt64, math.MinInt64 + 1} {
		x := whole.Of(n)
		if !whole.Right(x) || to(x).Cmp(big.NewInt(n)) != 0 {
			t.Errorf("Of(%d) = %v", n, x)
		}
		if got, ok := whole.Small(x); got != n || !ok {
			t.Errorf("Small(Of(%d)) = %d, %v", n, got, ok)
		}
	}
	if x := whole.Of(256); x.Neg || string(x.Mag) != "\x01\x00" {
		t.Error("Of(256)", x)
	}
	for _, n := range numbers() {
		got, ok := whole.Small(from(n))
		if ok != n.IsInt64() || ok && got != n.Int64() || !ok && got != 0 {
			t.Errorf("Small(%d) = %d, %v", n, got, ok)
		}
	}
	for i, x := range wrong() {
		if got, ok := whole.Small(x); got != 0 || ok {
			t.Error("Small of a wrong one", i, got, ok)
		}
	}
}

// P2.1
func TestCmp(t *testing.T) {
	for a, b := range pairs {
		if got := whole.Cmp(from(a), from(b)); got != a.Cmp(b) {
			t.Fatalf("Cmp(%d, %d) = %d", a, b, got)
		}
	}
	for i, x := range wrong() {
		for _, y := range []whole.Int{{}, whole.Of(5), whole.Of(-5), x} {
			if whole.Cmp(x, y) != 0 || whole.Cmp(y, x) != 0 {
				t.Error("Cmp of a wrong one", i)
			}
		}
	}
}

// agrees holds an answer against what must be: it, or, beyond 128 bytes, ErrLarge and nothing else.
func agrees(x whole.Int, err api.Errno, want *big.Int) bool {
	if new(big.Int).Abs(want).Cmp(far()) >= 0 {
		return err == api.ErrLarge && !x.Neg && len(x.Mag) == 0
	}
	return err == api.OK && same(x, from(want))
}

// P2.2
func TestSumsAndProducts(t *testing.T) {
	for a, b := range pairs {
		x, y := from(a), from(b)
		if s, err := whole.Add(x, y); !agrees(s, err, new(big.Int).Add(a, b)) {
			t.Fatalf("Add(%d, %d) = %v, %d", a, b, s, err)
		}
		if s, err := whole.Sub(x, y); !agrees(s, err, new(big.Int).Sub(a, b)) {
			t.Fatalf("Sub(%d, %d) = %v, %d", a, b, s, err)
		}
		if s, err := whole.Mul(x, y); !agrees(s, err, new(big.Int).Mul(a, b)) {
			t.Fatalf("Mul(%d, %d) = %v, %d", a, b, s, err)
		}
	}
}

// P2.2: just what has 129 bytes is too large.
func TestTheGreatest(t *testing.T) {
	top := from(new(big.Int).Sub(far(), big.NewInt(1)))
	bottom := whole.Int{Neg: true, Mag: top.Mag}
	one := whole.Of(1)
	if x, err := whole.Add(top, one); err != api.ErrLarge || x.Neg || len(x.Mag) != 0 {
		t.Error("Add", x, err)
	}
	if x, err := whole.Sub(bottom, one); err != api.ErrLarge || x.Neg || len(x.Mag) != 0 {
		t.Error("Sub", x, err)
	}
	if x, err := whole.Add(top, bottom); err != api.OK || x.Neg || len(x.Mag) != 0 {
		t.Error("Add", x, err)
	}
	if x, err := whole.Mul(top, whole.Of(2)); err != api.ErrLarge || x.Neg || len(x.Mag) != 0 {
		t.Error("Mul", x, err)
	}
	if x, err := whole.Mul(top, whole.Of(-1)); err != api.OK || !same(x, bottom) {
		t.Error("Mul", err)
	}
	if x, err := whole.Mul(top, top); err != api.ErrLarge || x.Neg || len(x.Mag) != 0 {
		t.Error("Mul", x, err)
	}
	if x, err := whole.Div(bottom, one); err != api.OK || !same(x, bottom) {
		t.Error("Div", err)
	}
	if x, err := whole.Div(bottom, whole.Of(-1)); err != api.OK || !same(x, top) {
		t.Error("Div", err)
	}
}

// floor is what math/big knows of no name: the quotient that is not above, and what is left.
func floor(a, b *big.Int) (*big.Int, *big.Int) {
	q, r := new(big.Int).QuoRem(a, b, new(big.Int))
	if r.Sign() != 0 && r.Sign() != b.Sign() {
		q.Sub(q, big.NewInt(1))
		r.Add(r, b)
	}
	return q, r
}

func dividesWell(t *testing.T, a, b *big.Int) {
	t.Helper()
	x, y := from(a), from(b)
	q, e1 := whole.Div(x, y)
	r, e2 := whole.Mod(x, y)
	if b.Sign() == 0 {
		if e1 != api.ErrZero || e2 != api.ErrZero || q.Neg || r.Neg || len(q.Mag) != 0 || len(r.Mag) != 0 {
			t.Fatalf("%d by 0: %v, %d, %v, %d", a, q, e1, r, e2)
		}
		return
	}
	quotient, rest := floor(a, b)
	if !agrees(q, e1, quotient) || !agrees(r, e2, rest) {
		t.Fatalf("%d by %d: %s, %d, %s, %d", a, b, whole.Text(q), e1, whole.Text(r), e2)
	}
}

// P2.2
func TestQuotients(t *testing.T) {
	for a, b := range pairs {
		dividesWell(t, a, b)
	}
	rows := []struct{ x, y, q, r int64 }{
		{-7, 2, -4, 1}, {7, -2, -4, -1}, {7, 2, 3, 1}, {-7, -2, 3, -1},
		{6, 2, 3, 0}, {-6, 2, -3, 0}, {6, -2, -3, 0}, {0, 5, 0, 0}, {0, -5, 0, 0},
		{1, 5, 0, 1}, {-1, 5, -1, 4}, {1, -5, -1, -4}, {-1, -5, 0, -1},
	}
	for _, r := range rows {
		q, e1 := whole.Div(whole.Of(r.x), whole.Of(r.y))
		m, e2 := whole.Mod(whole.Of(r.x), whole.Of(r.y))
		if e1 != api.OK || e2 != api.OK || !same(q, whole.Of(r.q)) || !same(m, whole.Of(r.r)) {
			t.Error(r, whole.Text(q), whole.Text(m), e1, e2)
		}
	}
}

// P2.2: words at which the first guess of a quotient's digit is too great by one or by two.
func TestQuotientsThatAreGuessedWrong(t *testing.T) {
	edges := []uint32{0, 1, 0x7fffffff, 0x80000000, 0xfffffffe, 0xffffffff}
	at := func(i, places int) *big.Int {
		n := new(big.Int)
		for range places {
			n.Lsh(n, 32)
			n.Or(n, big.NewInt(int64(edges[i%len(edges)])))
			i /= len(edges)
		}
		return n
	}
	for i := range 6 * 6 * 6 * 6 {
		for j := range 6 * 6 {
			dividesWell(t, at(i, 4), at(j, 2))
		}
		for j := range 6 * 6 * 6 {
			dividesWell(t, at(i, 4), at(j, 3))
		}
	}
}

// P2.2, and the order of its errors.
func TestWrongArguments(t *testing.T) {
	calls := []func(x, y whole.Int) (whole.Int, api.Errno){whole.Add, whole.Sub, whole.Mul, whole.Div, whole.Mod}
	for i, x := range wrong() {
		for k, call := range calls {
			for _, y := range append(wrong(), whole.Int{}, whole.Of(1), whole.Of(-300)) {
				if z, err := call(x, y); err != api.ErrArg || z.Neg || len(z.Mag) != 0 {
					t.Error("call", k, "wrong one ahead", i, z, err)
				}
				if z, err := call(y, x); err != api.ErrArg || z.Neg || len(z.Mag) != 0 {
					t.Error("call", k, "wrong one behind", i, z, err)
				}
			}
		}
	}
	for _, y := range []whole.Int{{}, {Mag: []byte{}}} {
		if z, err := whole.Div(whole.Of(5), y); err != api.ErrZero || z.Neg || len(z.Mag) != 0 {
			t.Error("Div", z, err)
		}
		if z, err := whole.Mod(whole.Int{}, y); err != api.ErrZero || z.Neg || len(z.Mag) != 0 {
			t.Error("Mod", z, err)
		}
	}
}

// P2.3, P2.5
func TestTextIsReadAsItWas(t *testing.T) {
	list := numbers()
	s := source(2)
	for range 2000 {
		list = append(list, s.number())
	}
	for power := range int64(309) {
		n := new(big.Int).Exp(big.NewInt(10), big.NewInt(power), nil)
		list = append(list, n, new(big.Int).Sub(n, big.NewInt(1)), new(big.Int).Neg(n))
	}
	for _, n := range list {
		x := from(n)
		if got := whole.Text(x); got != n.String() {
			t.Fatalf("Text(%d) = %q", n, got)
		}
		if y, err := whole.Read(n.String()); err != api.OK || !same(x, y) {
			t.Fatalf("Read(%d) = %v, %d", n, y, err)
		}
	}
	for i, x := range wrong() {
		if got := whole.Text(x); got != "" {
			t.Error("Text of a wrong one", i, got)
		}
	}
	if got := whole.Text(whole.Int{Mag: []byte{1, 0}}); got != "256" {
		t.Error("Text", got)
	}
}

// P2.3
func TestReadTellsFaults(t *testing.T) {
	top := new(big.Int).Sub(far(), big.NewInt(1))
	rows := []struct {
		in   string
		want api.Errno
	}{
		{"", api.ErrForm}, {"-", api.ErrForm}, {"--1", api.ErrForm}, {"1-", api.ErrForm}, {"-0", api.ErrForm},
		{"+1", api.ErrForm}, {" 1", api.ErrForm}, {"1 ", api.ErrForm}, {"1.0", api.ErrForm}, {"1e3", api.ErrForm},
		{"00", api.ErrForm}, {"01", api.ErrForm}, {"-01", api.ErrForm}, {"-00", api.ErrForm}, {"1_0", api.ErrForm},
		{"0x1", api.ErrForm}, {"a", api.ErrForm}, {"1/", api.ErrForm}, {"1:", api.ErrForm}, {"1\x00", api.ErrForm},
		{"\u0661", api.ErrForm}, {"1\xff", api.ErrForm}, {"\xff", api.ErrForm},
		{far().String(), api.ErrLarge},
		{"-" + far().String(), api.ErrLarge},
		{"1" + strings.Repeat("0", 398), api.ErrLarge},
		{strings.Repeat("9", 400), api.ErrLarge},
		{strings.Repeat("9", 401), api.ErrLarge},
		{"-" + strings.Repeat("9", 400), api.ErrLarge},
		{strings.Repeat("1", 100000), api.ErrLarge},
		{new(big.Int).Lsh(big.NewInt(1), 2048).String(), api.ErrLarge},
		{new(big.Int).Lsh(big.NewInt(1), 4096).String(), api.ErrLarge},
		{strings.Repeat("1", 401) + "x", api.ErrForm},
		{"0" + strings.Repeat("1", 500), api.ErrForm},
		{strings.Repeat("0", 500), api.ErrForm},
		{strings.Repeat("1", 310) + "-", api.ErrForm},
		{"0", api.OK}, {"10", api.OK}, {"100", api.OK}, {"-100", api.OK}, {"1001", api.OK},
		{top.String(), api.OK}, {"-" + top.String(), api.OK},
	}
	for _, r := range rows {
		x, err := whole.Read(r.in)
		if err != r.want {
			t.Errorf("Read(%q): %d, not %d", r.in, err, r.want)
		}
		if err != api.OK && (x.Neg || len(x.Mag) != 0) {
			t.Errorf("Read(%q) = %v beside an error", r.in, x)
		}
		if err == api.OK && whole.Text(x) != r.in {
			t.Errorf("Read(%q) = %s", r.in, whole.Text(x))
		}
	}
}

// P2.4: what holds of whole numbers, asked without another reckoner's help.
func TestLaws(t *testing.T) {
	s := source(3)
	third := func() whole.Int {
		n := s.number()
		return from(n.Rem(n, new(big.Int).Lsh(big.NewInt(1), 330)))
	}
	must := func(x whole.Int, err api.Errno) whole.Int {
		t.Helper()
		if err != api.OK {
			t.Fatal(err)
		}
		return x
	}
	for range 2000 {
		x, y, z := third(), third(), third()
		if !same(must(whole.Add(x, y)), must(whole.Add(y, x))) || !same(must(whole.Mul(x, y)), must(whole.Mul(y, x))) {
			t.Fatal("either way round", x, y)
		}
		if !same(must(whole.Add(must(whole.Add(x, y)), z)), must(whole.Add(x, must(whole.Add(y, z))))) {
			t.Fatal("a sum's grouping", x, y, z)
		}
		if !same(must(whole.Mul(must(whole.Mul(x, y)), z)), must(whole.Mul(x, must(whole.Mul(y, z))))) {
			t.Fatal("a product's grouping", x, y, z)
		}
		if !same(must(whole.Sub(must(whole.Add(x, y)), y)), x) {
			t.Fatal("Sub undoes Add", x, y)
		}
		if len(y.Mag) == 0 {
			continue
		}
		q, r := must(whole.Div(x, y)), must(whole.Mod(x, y))
		if !same(must(whole.Add(must(whole.Mul(y, q)), r)), x) {
			t.Fatal("Div and Mod make x", x, y)
		}
		nearer := whole.Cmp(whole.Int{Mag: r.Mag}, whole.Int{Mag: y.Mag}) < 0
		if len(r.Mag) != 0 && (r.Neg != y.Neg || !nearer) {
			t.Fatal("Mod's sign and size", x, y, r)
		}
	}
}

// The rules 4 and 5: no argument is changed, and no answer shares memory with it.
func TestAnswersAreNewMemory(t *testing.T) {
	calls := []func(x, y whole.Int) (whole.Int, api.Errno){whole.Add, whole.Sub, whole.Mul, whole.Div, whole.Mod}
	others := []whole.Int{{}, whole.Of(1), whole.Of(-1), whole.Of(1 << 40)}
	for k, call := range calls {
		for _, other := range others {
			for _, turned := range []bool{false, true} {
				x := whole.Of(123456789012)
				was := slices.Clone(x.Mag)
				a, b := x, other
				if turned {
					a, b = other, x
				}
				z, _ := call(a, b)
				want := slices.Clone(z.Mag)
				clear(z.Mag)
				if !bytes.Equal(x.Mag, was) {
					t.Fatal("call", k, "changed its argument")
				}
				again, _ := call(a, b)
				clear(x.Mag)
				if !bytes.Equal(again.Mag, want) {
					t.Fatal("call", k, "shares memory")
				}
			}
		}
	}
}
