package reach_test

import (
	"math"
	"strconv"
	"strings"
	"testing"

	"lapidary/api"
	"lapidary/class"
	"lapidary/number"
	"lapidary/reach"
	"lapidary/view"
	"lapidary/whole"
)

// P18.2: each kind of value, and what is none.
func TestTextKinds(t *testing.T) {
	v := with(t)
	told(t, v, api.Val{}, "nil")
	told(t, v, api.Val{K: api.False}, "false")
	told(t, v, api.Val{K: api.True}, "true")
	told(t, v, api.Val{N: 5}, "nil")
	told(t, v, api.Val{K: api.True, N: -5}, "true")
	for n, s := range map[int64]string{0: "0", 7: "7", -1: "-1", 10: "10", api.Small - 1: "1152921504606846975", -api.Small: "-1152921504606846976", math.MaxInt64: "9223372036854775807", math.MinInt64: "-9223372036854775808"} {
		told(t, v, integer(n), s)
	}
	told(t, v, api.Val{K: api.Block}, "a Block")
	told(t, v, api.Val{K: api.Block, N: -3}, "a Block")
	for _, n := range oops(0, -1, missing, firstNew, math.MaxInt64, math.MinInt64) {
		told(t, v, ref(n), "?")
	}
	for _, k := range []int{-1, 6, 99, math.MaxInt, math.MinInt} {
		told(t, v, api.Val{K: k}, "?")
		told(t, v, api.Val{K: k, N: 15}, "?")
	}
	told(t, &view.View{}, ref(1), "?")
}

// leaf asks for the Text of an object of the commit, of a new one, and of one that was put, which has slots that are not told.
func leaf(t *testing.T, o api.Obj, want string) {
	t.Helper()
	o.Slots = []api.Val{ref(things), integer(3)}
	v := with(t, o, array())
	told(t, v, ref(things), want)
	told(t, v, ref(made(t, v, o)), want)
	put(t, v, things+1, o)
	told(t, v, ref(things+1), want)
}

// P18.2: Strings and Symbols.
func TestTextTexts(t *testing.T) {
	leaf(t, text(class.String, ""), "''")
	leaf(t, text(class.String, "abc d"), "'abc d'")
	leaf(t, text(class.String, "it's ''"), "'it''s '''''")
	leaf(t, text(class.String, "\x00\xff\n"), "'\x00\xff\n'")
	for _, s := range []string{"a", "at:put:", "at:put", "Zz9_", "+", "->", "~=", "a:", "a::"} {
		leaf(t, text(class.Symbol, s), "#"+s)
	}
	for _, s := range []string{"", "a b", "9", "_a", "a:=", ":a", "+++", "a+", "#a", "a\x00", "é", "|", "a:9"} {
		leaf(t, text(class.Symbol, s), "#'"+s+"'")
	}
	leaf(t, text(class.Symbol, "it's"), "#'it''s'")
	leaf(t, text(class.Symbol, "'"), "#''''")
	leaf(t, text(class.Symbol, strings.Repeat("a", api.MaxBytes)), "#"+strings.Repeat("a", api.MaxBytes))
}

func numberBytes(t *testing.T, n number.Num) string {
	t.Helper()
	b, err := number.Put(n)
	if err != api.OK {
		t.Fatal("Put", n, err)
	}
	return string(b)
}

// P18.2: Integers whose bytes are a whole number, or not.
func TestTextIntegers(t *testing.T) {
	for _, s := range []string{"0", "1", "-1", "255", "256", "-65536", "1208925819614629174706176", "-15511210043330985984000000"} {
		n, err := whole.Read(s)
		if err != api.OK {
			t.Fatal("Read", s, err)
		}
		leaf(t, text(class.Integer, numberBytes(t, number.Num{I: n})), s)
	}
	greatest := whole.Int{Mag: []byte(strings.Repeat("\xff", api.MaxDigits))}
	leaf(t, text(class.Integer, numberBytes(t, number.Num{I: greatest})), whole.Text(greatest))
	pair := numberBytes(t, number.Num{Pair: true, C: complex(1, 2)})
	for _, s := range []string{"", "\x01", "\x00\x00", "\x00\x00\x05", "\x02", "\x03\x05", pair, pair + "\x00", "7", "\x00" + strings.Repeat("\xff", api.MaxDigits+1)} {
		leaf(t, text(class.Integer, s), "?")
	}
}

// P18.2: Complexes, whatever their bytes are, and classes.
func TestTextOthers(t *testing.T) {
	leaf(t, text(class.Complex, numberBytes(t, number.Num{Pair: true, C: complex(1, -2)})), "complex 023ff0000000000000c000000000000000")
	leaf(t, text(class.Complex, ""), "complex ")
	leaf(t, text(class.Complex, "\x00\x09\x0a\x0f\x10\x9a\xff"), "complex 00090a0f109aff")
	leaf(t, text(class.Class, "P"), "class P")
	leaf(t, text(class.Class, ""), "class ")
	leaf(t, text(class.Class, "a 'b\xff"), "class a 'b\xff")
	v := with(t)
	told(t, v, ref(class.Counter), "class RcCounter")
	told(t, v, ref(class.Class), "class Class")
}

// P18.2: an object of each other class is told by its class's name and its slots; its bytes are not told.
func TestTextObjects(t *testing.T) {
	names := map[int64]string{class.Object: "Object", class.Nil: "UndefinedObject", class.False: "False", class.True: "True", class.Array: "Array", class.Block: "Block", class.Dictionary: "Dictionary", class.Counter: "RcCounter", class.Bag: "RcBag", class.Root: "", 16: "", missing: ""}
	for c, name := range names {
		v := with(t, api.Obj{Class: c, Bytes: []byte("bytes")}, api.Obj{Class: c, Slots: []api.Val{integer(-1), ref(things)}, Bytes: []byte("bytes")})
		told(t, v, ref(things), "1:"+name+"()")
		told(t, v, ref(things+1), "1:"+name+"(-1 2:"+name+"())")
	}
	v := with(t, text(class.Class, "P q"), slots(things, api.Val{}), slots(things+1, ref(things)))
	told(t, v, ref(things+1), "1:P q(nil)")
	told(t, v, ref(things+2), "1:(class P q)") // the class is an object without bytes
	fresh := made(t, v, text(class.Class, "New"))
	told(t, v, ref(made(t, v, slots(fresh, api.Val{K: api.True}))), "1:New(true)")
	told(t, v, ref(made(t, v, slots(2*api.MaxOops, ref(missing)))), "1:(?)")
}

// P18.2: the chapter's example; what was written is told by its number, those that are not numbered as often as they come.
func TestTextAgain(t *testing.T) {
	v := with(t,
		array(integer(1), ref(things+1), ref(things+2)),
		text(class.Symbol, "a"),
		text(class.String, "x"),
		array(ref(things+3)),
		array(ref(things+5), ref(things+6), ref(things+5), ref(things+1), ref(things+1), ref(things+4), ref(10), ref(10)),
		array(ref(things+6), ref(things+5), ref(things+4)),
		slots(class.Object),
	)
	told(t, v, ref(things), "1:Array(1 #a 'x')")
	told(t, v, ref(things+3), "1:Array(@1)")
	told(t, v, ref(things+4), "1:Array(2:Array(3:Object() @2 @1) @3 @2 #a #a @1 class Array class Array)")
	told(t, v, ref(things+5), "1:Array(2:Object() @1 3:Array(@1 @2 @1 #a #a @3 class Array class Array))")
	told(t, v, ref(things+6), "1:Object()")
}

// P18.2: it is told as the view sees it.
func TestTextView(t *testing.T) {
	x := ground(t, map[int64]api.Obj{things: array(integer(1))})
	v, w := view.New(x), view.New(x)
	put(t, v, things, array(integer(2)))
	put(t, v, class.Array, text(class.Class, "List"))
	told(t, v, ref(things), "1:List(2)")
	told(t, w, ref(things), "1:Array(1)")
}

// nest is an Array of so many empty Objects, and of more behind them.
func nest(t *testing.T, many int, more ...api.Val) (*view.View, api.Val) {
	t.Helper()
	v := with(t, slots(class.Object), text(class.String, "s"), array(ref(things)))
	var list []api.Val
	for range many {
		list = append(list, ref(made(t, v, slots(class.Object))))
	}
	return v, ref(made(t, v, array(append(list, more...)...)))
}

// P18.2: 60 objects are written, and another one is "..", though it comes twice; what was written and what has no number is told still.
func TestTextMost(t *testing.T) {
	all := func(many int) string {
		var out []string
		for i := range many {
			out = append(out, strconv.Itoa(i+2)+":Object()")
		}
		return strings.Join(out, " ")
	}
	v, x := nest(t, 59)
	told(t, v, x, "1:Array("+all(59)+")")
	v, x = nest(t, 60)
	told(t, v, x, "1:Array("+all(59)+" ..)")
	v, x = nest(t, 58, ref(things))
	told(t, v, x, "1:Array("+all(58)+" 60:Object())")
	v, x = nest(t, 58, ref(things+2), ref(things))
	told(t, v, x, "1:Array("+all(58)+" 60:Array(..) ..)")
	v, x = nest(t, 59, ref(things), ref(things), ref(firstNew), ref(firstNew+58), ref(things+1), integer(7), ref(missing), ref(class.Object))
	told(t, v, x, "1:Array("+all(59)+" .. .. @2 @60 's' 7 ? class Object)")
	// each within the one ahead of it
	v = chain(t, 100)
	want := ""
	for i := range 60 {
		want += strconv.Itoa(i+1) + ":Array("
	}
	told(t, v, ref(17), want+".."+strings.Repeat(")", 60))
}

// P18.2: a text of 2000 bytes is whole; a longer one is cut there.
func TestTextLongest(t *testing.T) {
	const longest = 2000
	for size := longest - 2; size <= longest+2; size++ {
		fill := size - len("1:Array('' '')")
		first, second := strings.Repeat("a", fill/2), strings.Repeat("b", fill-fill/2)
		v := with(t, text(class.String, first), text(class.String, second), array(ref(things), ref(things+1)))
		whole := "1:Array('" + first + "' '" + second + "')"
		if len(whole) != size {
			t.Fatal("the text has", len(whole))
		}
		told(t, v, ref(things+2), whole[:min(size, longest)])
	}
	// many short ones: the text ends within one, or between two
	for digits := int64(100000); digits < 1e12; digits *= 10 {
		o, words := array(), []string(nil)
		for i := range int64(api.MaxSlots) {
			o.Slots, words = append(o.Slots, integer(digits+i)), append(words, strconv.FormatInt(digits+i, 10))
		}
		whole := "1:Array(" + strings.Join(words, " ") + ")"
		told(t, with(t, o), ref(things), whole[:min(len(whole), longest)])
	}
	quotes := strings.Repeat("'", api.MaxBytes)
	leaf(t, text(class.String, quotes), strings.Repeat("'", longest))
	leaf(t, text(class.Symbol, quotes), "#"+strings.Repeat("'", longest-1))
	leaf(t, text(class.Complex, quotes), ("complex " + strings.Repeat("27", api.MaxBytes))[:longest])
	leaf(t, text(class.String, strings.Repeat("a'", 499)+"a"), "'"+strings.Repeat("a''", 499)+"a'")
	// within a rune
	v := with(t, text(class.String, strings.Repeat("é", 512)), array(ref(things), ref(things)))
	want := "1:Array('" + strings.Repeat("é", 512) + "' '" + strings.Repeat("é", 512) + "')"
	told(t, v, ref(things+1), want[:longest])
	told(t, v, ref(made(t, v, array(integer(1), ref(things), ref(things)))), ("1:Array(1 '" + want[len("1:Array('"):])[:longest])
}

// P7: many slots that name objects with many slots are told at once, as what is cut is not written.
func TestTextWide(t *testing.T) {
	v := with(t)
	last := made(t, v, text(class.String, strings.Repeat("x", api.MaxBytes)))
	for range 80 {
		o := array()
		for range api.MaxSlots {
			o.Slots = append(o.Slots, ref(last))
		}
		last = made(t, v, o)
	}
	if s := reach.Text(v, ref(last)); len(s) != 2000 || !strings.HasPrefix(s, "1:Array(2:Array(3:Array(") {
		t.Error("Text", s)
	}
}
