package run_test

import (
	"math/big"
	"math/rand"
	"slices"
	"strings"
	"testing"

	"lapidary/api"
	"lapidary/class"
	"lapidary/run"
	"lapidary/view"
)

// The edges of small numbers, as sources: the greatest one and the one beyond it, the least one and the one beyond that.
const (
	great   = "1152921504606846975"
	greater = "1152921504606846976"
	least   = "(0 - 1152921504606846976)"
	lesser  = "(0 - 1152921504606846977)"
)

// P15.2, P15.5: natives of Integer, at the edges of small numbers too.
func TestIntegerNatives(t *testing.T) {
	wants(t, world(t, nil),
		"3 + 4", "7", "3 - 4", "-1", "3 * 4", "12", "7 // 2", "3", "7 \\\\ 2", "1", "(0 - 7) // 2", "-4", "(0 - 7) \\\\ 2", "1", "7 \\\\ (0 - 2)", "-1",
		great, "1152921504606846975", great+" + 1", "large 1152921504606846976", greater+" - 1", "1152921504606846975", great+" + 0", "1152921504606846975",
		least, "-1152921504606846976", lesser, "large -1152921504606846977", lesser+" + 1", "-1152921504606846976", least+" - 1", "large -1152921504606846977",
		greater+" - "+greater, "0", greater+" * 0", "0", greater+" // "+greater, "1", great+" * "+great, "large 1329227995784915870597964051066650625", least+" * "+least, "large 1329227995784915872903807060280344576",
		"0 - "+least, "large 1152921504606846976", greater+" negated", "-1152921504606846976", "(0 - "+greater+") = "+least, "true",
		greater+" // 1", "large 1152921504606846976", greater+" \\\\ 7", "1", least+" // (0 - 1)", "large 1152921504606846976",
		"3 < 4", "true", "4 < 3", "false", "3 < 3", "false", great+" < "+greater, "true", greater+" < "+great, "false", lesser+" < "+least, "true", least+" < "+lesser, "false", greater+" < "+greater, "false",
		"3 = 3", "true", "3 = 4", "false", greater+" = "+greater, "true", greater+" = "+great, "false", "3 = nil", "false", "3 = 'a'", "false", "3 = #()", "false", "3 = (3 im: 0)", "true", "3 = (3 im: 1)", "false", greater+" = ("+greater+" im: 0)", "true",
		"0 asString", `"0"`, "(0 - 12) asString", `"-12"`, greater+" asString", `"1152921504606846976"`, lesser+" asString", `"-1152921504606846977"`,
		"3 // 0", "! by nought", "3 \\\\ 0", "! by nought", "3 / 0", "! by nought", greater+" // 0", "! by nought",
		"7 / 2", "complex 3.5 0", "6 / 2", "complex 3 0", "(6 / 2) re", "3", greater+" / "+greater, "complex 1 0",
		"100000000000000000000 / 3", "! too large", "3 / 100000000000000000000", "! too large", "100000000000000000000 + 1", "large 100000000000000000001",
	)
}

// P15.2: numbers that are too large, and too large for a float.
func TestGreatNumbers(t *testing.T) {
	nines := strings.Repeat("9", 308)
	wants(t, world(t, nil),
		nines+" + 0 - "+nines, "0",
		nines+" * 10", "! too large",
		nines+" * "+nines, "! too large",
		nines+" asString size", "308",
		nines+" // "+nines, "1",
		nines+" / 1", "! too large",
		nines+" im: 1", "! too large",
		"1 im: "+nines, "! too large",
		"9223372036854775807 im: 0", "complex 9.223372036854776e+18 0",
		"9223372036854775808 im: 0", "! too large",
		"(0 - 9223372036854775808) im: 0", "complex -9.223372036854776e+18 0",
		"(0 - 9223372036854775809) im: 0", "! too large",
		"9223372036854775808 + (1 im: 1)", "! too large",
		"(1 im: 1) + 9223372036854775808", "! too large",
		"(1 im: 1) = 9223372036854775808", "false",
		"9223372036854775808 = (1 im: 1)", "false",
		"| n | n := 1. [[true] whileTrue: [n := n * 1000000]] onError: [:e | e]", `"too large"`,
	)
}

// P15.2, P15.5: natives of Complex, and of both kinds.
func TestComplexNatives(t *testing.T) {
	wants(t, world(t, nil),
		"1 im: 2", "complex 1 2", "(1 im: 2) class", "class Complex", "(1 im: 0) class", "class Complex",
		"(1 im: 2) + (3 im: 4)", "complex 4 6", "(1 im: 2) - (3 im: 4)", "complex -2 -2", "(1 im: 2) * (3 im: 4)", "complex -5 10", "(1 im: 0) / (0 im: 1)", "complex 0 -1",
		"7 + (0 im: 1)", "complex 7 1", "(0 im: 1) + 7", "complex 7 1", "(0 im: 1) * 2", "complex 0 2", "2 - (0 im: 1)", "complex 2 -1",
		"(1 im: 2) / 0", "! by nought", "(1 im: 2) / (0 im: 0)", "! by nought",
		"(1 im: 2) = (1 im: 2)", "true", "(1 im: 2) = (1 im: 3)", "false", "(3 im: 0) = 3", "true", "(3 im: 1) = 3", "false", "(1 im: 2) = nil", "false", "(1 im: 2) = 'a'", "false",
		"(1 im: 2) re", "1", "(1 im: 2) im", "2", "(7 / 2) re", "3", "(0 - 7 / 2) re", "-3", "(7 / 2) im", "0",
		"("+great+" im: 0) re", "large 1152921504606846976", "("+least+" im: 0) re", "-1152921504606846976", "(0 im: "+greater+") im", "large 1152921504606846976", "(0 im: "+lesser+") im", "-1152921504606846976", "(0 im: 2305843009213693952) im", "large 2305843009213693952",
		"(4611686018427387904 im: 0) re", "! too large", "(0 im: 0 - 4611686018427387904) im", "! too large", "(4611686018427387000 im: 0) re", "large 4611686018427386880",
		"(1 im: 2) im: 3", "! does not understand im:", "3 im: (1 im: 2)", "! wrong kind", "3 im: nil", "! wrong kind",
		"3 // (1 im: 2)", "! wrong kind", "3 \\\\ (1 im: 2)", "! wrong kind", "3 < (1 im: 2)", "! wrong kind",
		"(1 im: 2) asString", "! does not understand asString", "3 re", "! does not understand re", "(1 im: 2) negated", "! does not understand negated",
	)
	big := "| c | c := 9223372036854775807 im: 9223372036854775807. 20 timesRepeat: [c := c * c]. " // its parts are NaN or infinite then
	wants(t, world(t, nil), big+"c re", "! wrong kind", big+"c im", "! wrong kind", big+"c = c", "false", big+"c class", "class Complex")
}

// P15.2: arguments that are no numbers.
func TestNumberKinds(t *testing.T) {
	v := rooted(t, text(class.Integer, ""), text(class.Integer, "\x00\x00"), text(class.Complex, "\x02"), text(class.Integer, "\x03"))
	for _, x := range append([]string{"'a'", "#a", "Integer", "A", "B", "C", "D"}, others...) {
		for _, op := range []string{"+", "-", "*", "/", "//", "\\\\", "<", "im:"} {
			wants(t, v, "3 "+op+" "+x, "! wrong kind")
		}
		for _, op := range []string{"+", "-", "*", "/"} {
			wants(t, v, "(1 im: 2) "+op+" "+x, "! wrong kind")
		}
		wants(t, v, "3 = "+x, "false", "(1 im: 2) = "+x, "false")
	}
	for _, x := range []string{"A", "B", "D"} {
		for _, message := range []string{"+ 3", "- 3", "* 3", "/ 3", "// 3", "\\\\ 3", "< 3", "= 3", "im: 3", "asString"} {
			wants(t, v, x+" "+message, "! wrong kind")
		}
	}
	for _, message := range []string{"+ 3", "- 3", "* 3", "/ 3", "= 3", "re", "im"} {
		wants(t, v, "C "+message, "! wrong kind")
	}
}

// P15.2: objects of Integer that are small or complex, and of Complex that are whole, are the numbers that their bytes are.
func TestOddNumbers(t *testing.T) {
	pair := "\x02" + strings.Repeat("\x00", 16)
	wants(t, rooted(t, text(class.Integer, "\x00\x05"), text(class.Integer, "\x01\x05"), text(class.Integer, pair), text(class.Complex, "\x00\x07"), text(class.Integer, "\x00")),
		"A + 1", "6", "B + 1", "-4", "A = 5", "true", "5 = A", "true", "A == 5", "false", "A asString", `"5"`, "A im: B", "complex 5 -5", "E + 0", "0", "3 // E", "! by nought",
		"C + 1", "complex 1 0", "C asString", "! wrong kind", "C im: 1", "! wrong kind", "C < 1", "! wrong kind", "C // 1", "! wrong kind",
		"D + 1", "8", "D re", "7", "D im", "0", "D / 7", "complex 1 0",
	)
}

// P15.2: numbers that are objects are read: the receiver, then the argument; what comes of them is a new object, if it is not small.
func TestNumbersRead(t *testing.T) {
	const a, b, c = thingsAt, thingsAt + 1, thingsAt + 2
	for source, want := range map[string][]int64{
		"A + 1": {a}, "1 + A": {a}, "A + B": {a, b}, "A = B": {a, b}, "A = C": {a, c}, "3 = C": {c}, "A < B": {a, b}, "A + C": {a, c}, "A asString": {a}, "A + nil": {a}, "A = nil": {a}, "A im: C": {a, c}, "A": nil, "A class": nil, "A foo": nil, "A // 0": {a},
	} {
		v := rooted(t, text(class.Integer, "\x00\x10\x00\x00\x00\x00\x00\x00\x00"), text(class.Integer, "\x00\x20\x00\x00\x00\x00\x00\x00\x00"), text(class.String, "\x00\x10"))
		over(t, v, source)
		got := slices.DeleteFunc(v.Reads(), func(oop int64) bool { return oop < thingsAt || oop >= free })
		if !slices.Equal(got, want) || len(v.Writes()) != 0 {
			t.Errorf("%q has read %v, want %v", source, got, want)
		}
	}
	for source, made := range map[string]int{"3 + 4": 0, great + " + 1": 1, great + " + 0": 0, "0 - " + greater: 1, "1 im: 2": 1, "1 / 2": 1, "3 < 4": 0, "3 asString": 1, "(1 im: 2) re": 1, "(" + greater + " im: 0) re": 3} {
		v := world(t, nil)
		do(t, v, source)
		if len(v.News()) != made {
			t.Errorf("%q has made %d, want %d", source, len(v.News()), made)
		}
	}
	v := world(t, nil)
	fill(t, v, 0)
	wants(t, v, great+" + 1", "! no room", "1 / 2", "! no room", "3 asString", "! no room", "3 + 4", "7")
}

// P15.5: sums, products, quotients and comparisons of whole numbers are those of math/big.
func TestWholeNumbersAgree(t *testing.T) {
	random := rand.New(rand.NewSource(1))
	near := []*big.Int{big.NewInt(0), big.NewInt(api.Small), big.NewInt(-api.Small), new(big.Int).Lsh(big.NewInt(1), 64), new(big.Int).Lsh(big.NewInt(1), 200)}
	pick := func() *big.Int {
		n := big.NewInt(random.Int63n(7) - 3)
		return n.Add(n, near[random.Intn(len(near))])
	}
	source := func(n *big.Int) string {
		if n.Sign() < 0 {
			return "(0 - " + new(big.Int).Neg(n).String() + ")"
		}
		return n.String()
	}
	want := func(n *big.Int) string {
		if n.IsInt64() && n.Int64() >= -api.Small && n.Int64() < api.Small {
			return n.String()
		}
		return "large " + n.String()
	}
	truth := func(is bool) string {
		if is {
			return "true"
		}
		return "false"
	}
	v := world(t, nil)
	for range 400 {
		x, y := pick(), pick()
		w := v.Copy()
		wants(t, w,
			source(x)+" + "+source(y), want(new(big.Int).Add(x, y)),
			source(x)+" - "+source(y), want(new(big.Int).Sub(x, y)),
			source(x)+" * "+source(y), want(new(big.Int).Mul(x, y)),
			source(x)+" < "+source(y), truth(x.Cmp(y) < 0),
			source(x)+" >= "+source(y), truth(x.Cmp(y) >= 0),
			source(x)+" = "+source(y), truth(x.Cmp(y) == 0),
		)
		if y.Sign() == 0 {
			continue
		}
		q, m := new(big.Int).QuoRem(x, y, new(big.Int))
		if m.Sign() != 0 && m.Sign() != y.Sign() {
			q.Sub(q, big.NewInt(1))
			m.Add(m, y)
		}
		wants(t, w, source(x)+" // "+source(y), want(q), source(x)+" \\\\ "+source(y), want(m))
	}
}

// counters is a world with a Counter A of the commit, one without a number, one without slots, and a Bag.
func counters(t testing.TB, n int64) *view.View {
	return rooted(t, slots(class.Counter, integer(n)), slots(class.Counter, api.Val{K: api.True}), slots(class.Counter), slots(class.Counter, integer(1), integer(9)))
}

// P15.2: natives of RcCounter, of new ones and those of the commit.
func TestCounterNatives(t *testing.T) {
	for _, c := range []string{"A", "RcCounter new"} {
		wants(t, counters(t, 0), c+" value", "0", c+" increment: 3", "RcCounter(3)")
		wants(t, counters(t, 0), "| c | c := "+c+". c decrement: 5; increment: 2. c value", "-3", "| c | c := "+c+". (c decrement: 0 - 3) == c", "true")
		for _, x := range append([]string{"'a'", greater, "(1 im: 2)"}, others...) {
			wants(t, counters(t, 0), c+" increment: "+x, "! wrong kind", c+" decrement: "+x, "! wrong kind")
		}
	}
	wants(t, counters(t, 0),
		"B value", "! wrong kind", "B increment: 1", "! wrong kind", "B decrement: 1", "! wrong kind",
		"C value", "! wrong kind", "C increment: 1", "! wrong kind", "C decrement: 1", "! wrong kind",
		"D increment: 5", "RcCounter(6 9)", "D value", "6",
	)
}

// P15.2: a Counter at the edges of small numbers; what is too large leaves it as it is.
func TestCounterEdges(t *testing.T) {
	cases := []struct {
		at     int64
		source string
		want   string
	}{
		{api.Small - 1, "A increment: 0", "RcCounter(1152921504606846975)"},
		{api.Small - 1, "A increment: 1", "! too large"},
		{api.Small - 1, "A decrement: 0 - 1", "! too large"},
		{api.Small - 2, "A increment: 1", "RcCounter(1152921504606846975)"},
		{-api.Small, "A decrement: 1", "! too large"},
		{-api.Small, "A increment: 0 - 1", "! too large"},
		{1 - api.Small, "A decrement: 1", "RcCounter(-1152921504606846976)"},
		{0, "A increment: " + great, "RcCounter(1152921504606846975)"},
		{1, "A increment: " + great, "! too large"},
		{0, "A decrement: " + least, "! too large"},
		{-1, "A decrement: " + least, "RcCounter(1152921504606846975)"},
		{0, "A increment: " + least, "RcCounter(-1152921504606846976)"},
		{-1, "A increment: " + least, "! too large"},
		{-1, "A decrement: " + great, "RcCounter(-1152921504606846976)"},
		{-2, "A decrement: " + great, "! too large"},
		{api.Small - 1, "A decrement: " + least, "! too large"},
		{-api.Small, "A increment: " + least, "! too large"},
	}
	for _, c := range cases {
		v := counters(t, c.at)
		r := over(t, v, c.source)
		if got := result(v, r); got != c.want {
			t.Errorf("%q of %d: %s, want %s", c.source, c.at, got, c.want)
		}
		failed := c.want[0] == '!'
		if has(v.Reads(), thingsAt) != failed || has(v.Writes(), thingsAt) == failed || (len(r.Ops()) == 0) != failed {
			t.Errorf("%q of %d: read %v, written %v, ops %v", c.source, c.at, v.Reads(), v.Writes(), r.Ops())
		}
		if now := peek(t, v, thingsAt).Slots[0].N; failed && now != c.at {
			t.Errorf("%q of %d: it is %d", c.source, c.at, now)
		}
	}
	r := over(t, counters(t, -1), "A decrement: "+least)
	if want := []run.Op{{Oop: thingsAt, Add: true, Value: integer(api.Small)}}; !slices.Equal(r.Ops(), want) {
		t.Error("ops", r.Ops())
	}
}

// P15.2: what is done to Counters and Bags is no reading; what asks for their values is; ops are of objects of the commit alone.
func TestCounterReads(t *testing.T) {
	for source, want := range map[string]struct {
		read, written bool
		ops           []run.Op
	}{
		"A":                          {},
		"A value":                    {read: true},
		"A increment: 3":             {written: true, ops: []run.Op{{Oop: thingsAt, Add: true, Value: integer(3)}}},
		"A decrement: 3":             {written: true, ops: []run.Op{{Oop: thingsAt, Add: true, Value: integer(-3)}}},
		"A increment: 0":             {written: true, ops: []run.Op{{Oop: thingsAt, Add: true, Value: integer(0)}}},
		"A increment: nil":           {},
		"A decrement: 'a'":           {},
		"A increment: 3; value":      {read: true, written: true, ops: []run.Op{{Oop: thingsAt, Add: true, Value: integer(3)}}},
		"(A increment: 3) == A":      {written: true, ops: []run.Op{{Oop: thingsAt, Add: true, Value: integer(3)}}},
		"A class":                    {},
		"RcCounter new increment: 3": {},
		"A foo: (RcCounter new increment: 3; decrement: 1)": {},
	} {
		v := counters(t, 5)
		r := over(t, v, source)
		if has(v.Reads(), thingsAt) != want.read || has(v.Writes(), thingsAt) != want.written || !slices.Equal(r.Ops(), want.ops) {
			t.Errorf("%q: read %v, written %v, ops %v", source, v.Reads(), v.Writes(), r.Ops())
		}
	}
	for _, x := range []string{"B", "C"} { // without a number
		v := counters(t, 5)
		r := over(t, v, x+" increment: 3")
		if has(v.Reads(), thingsAt+1) || has(v.Reads(), thingsAt+2) || len(v.Writes()) != 0 || len(r.Ops()) != 0 {
			t.Errorf("%s: read %v, written %v", x, v.Reads(), v.Writes())
		}
	}
}

// P15.2: the last object of a commit and the first new one.
func TestOpsAtTheEdge(t *testing.T) {
	v := world(t, map[int64]api.Obj{
		class.Root:  slots(class.Dictionary, ref(free), ref(api.MaxOops)),
		free:        text(class.Symbol, "A"),
		api.MaxOops: slots(class.Counter, integer(1)),
	})
	r := over(t, v, "| c | c := RcCounter new. c increment: 3. A increment: 4. c")
	if x, _ := r.Value(); x != ref(api.MaxOops+1) {
		t.Error("the new one is", x)
	}
	if want := []run.Op{{Oop: api.MaxOops, Add: true, Value: integer(4)}}; !slices.Equal(r.Ops(), want) {
		t.Error("ops", r.Ops())
	}
}

// P15.2: natives of RcBag: values stand in their order.
func TestBagNatives(t *testing.T) {
	for _, b := range []string{"A", "RcBag new"} {
		set := "| b | b := " + b + ". b add: 5; add: 3; add: true; add: nil; add: 3; add: false; add: 0 - 9. "
		for source, want := range map[string]string{
			"b":                                 "RcBag(nil false true -9 3 3 5)",
			"b size":                            "7",
			"b count: 3":                        "2",
			"b count: 4":                        "0",
			"b count: nil":                      "1",
			"b count: 'a'":                      "0",
			"b count: []":                       "0",
			"(b add: 3) == b":                   "true",
			"(b remove: 3) == b":                "true",
			"b remove: 3. b":                    "RcBag(nil false true -9 3 5)",
			"b remove: 3; remove: 3. b":         "RcBag(nil false true -9 5)",
			"b remove: 3; remove: 3; remove: 3": "! not there",
			"b remove: nil; remove: true. b":    "RcBag(false -9 3 3 5)",
			"b remove: 4":                       "! not there",
			"b remove: 'a'":                     "! not there",
			"b remove: []":                      "! not there",
			"b remove: b":                       "! not there",
			"b add: 'a'":                        "! wrong kind",
			"b add: []":                         "! wrong kind",
			"b add: b":                          "! wrong kind",
			"b add: " + greater:                 "! wrong kind",
			"b add: (1 im: 2)":                  "! wrong kind",
			"b add: " + least + ". b":           "RcBag(nil false true -1152921504606846976 -9 3 3 5)",
			"b add: " + great + ". b":           "RcBag(nil false true -9 3 3 5 1152921504606846975)",
		} {
			wants(t, rooted(t, slots(class.Bag)), set+source, want)
		}
		wants(t, rooted(t, slots(class.Bag)), b+" size", "0", b+" count: 3", "0", b+" remove: 3", "! not there")
	}
}

// P15.2: a Bag with MaxSlots values has no room for another one.
func TestBagFull(t *testing.T) {
	full := slots(class.Bag)
	for i := range int64(api.MaxSlots) {
		full.Slots = append(full.Slots, integer(i))
	}
	v := rooted(t, full)
	r := over(t, v, "A add: 7")
	if got := result(v, r); got != "! no room" || !has(v.Reads(), thingsAt) || len(v.Writes()) != 0 || len(r.Ops()) != 0 {
		t.Error(got, v.Reads(), v.Writes(), r.Ops())
	}
	v = rooted(t, full)
	r = over(t, v, "A add: 'a'")
	if got := result(v, r); got != "! wrong kind" || has(v.Reads(), thingsAt) {
		t.Error(got, v.Reads())
	}
	v = rooted(t, full)
	r = over(t, v, "A remove: 7; add: 1000. A size")
	if got := result(v, r); got != "256" || len(r.Ops()) != 2 {
		t.Error(got, r.Ops())
	}
	wants(t, world(t, nil), "| b | b := RcBag new. 256 timesRepeat: [b add: 1]. b size", "256", "| b | b := RcBag new. 257 timesRepeat: [b add: 1]. b size", "! no room")
}

// P15.2: what is read and written of a Bag of the commit.
func TestBagReads(t *testing.T) {
	for source, want := range map[string]struct {
		read, written bool
		ops           []run.Op
	}{
		"A":                {},
		"A size":           {read: true},
		"A count: 3":       {read: true},
		"A add: 4":         {written: true, ops: []run.Op{{Oop: thingsAt, Add: true, Value: integer(4)}}},
		"A add: nil":       {written: true, ops: []run.Op{{Oop: thingsAt, Add: true}}},
		"A remove: 3":      {written: true, ops: []run.Op{{Oop: thingsAt, Value: integer(3)}}},
		"A remove: 4":      {read: true},
		"A add: 'a'":       {},
		"A remove: 'a'":    {read: true},
		"RcBag new add: 4": {},
	} {
		v := rooted(t, slots(class.Bag, integer(3)))
		r := over(t, v, source)
		if has(v.Reads(), thingsAt) != want.read || has(v.Writes(), thingsAt) != want.written || !slices.Equal(r.Ops(), want.ops) {
			t.Errorf("%q: read %v, written %v, ops %v", source, v.Reads(), v.Writes(), r.Ops())
		}
	}
}
