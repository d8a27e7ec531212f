package reach

import (
	"strconv"
	"strings"

	"lapidary/api"
	"lapidary/class"
	"lapidary/lex"
	"lapidary/number"
	"lapidary/view"
	"lapidary/whole"
)

const (
	longest = 2000 // bytes of a text
	most    = 60   // objects that are written in it
	unknown = "?"  // what can not be told
)

// Text is a value as a text that says nothing of oops.
func Text(v *view.View, x api.Val) string {
	if v == nil {
		return ""
	}
	w := writer{v: v}
	w.value(x)
	s := w.text.String()
	return s[:min(len(s), longest)]
}

// writer writes values of a view.
type writer struct {
	v       *view.View
	text    strings.Builder
	written marks[int64] // objects, by the numbers under which they stand in the text
}

func (w *writer) value(x api.Val) {
	if w.text.Len() > longest { // what follows is cut off
		return
	}
	switch x.K {
	case api.Nil:
		w.text.WriteString("nil")
	case api.False:
		w.text.WriteString("false")
	case api.True:
		w.text.WriteString("true")
	case api.Int:
		w.text.WriteString(strconv.FormatInt(x.N, 10))
	case api.Block:
		w.text.WriteString("a Block")
	case api.Ref:
		w.ref(x.N)
	default:
		w.text.WriteString(unknown)
	}
}

func (w *writer) ref(oop int64) {
	o, err := w.v.Peek(oop)
	if err != api.OK {
		w.text.WriteString(unknown)
		return
	}
	if s, is := leaf(o); is {
		w.text.WriteString(s)
		return
	}
	w.object(oop, o)
}

// leaf is the text of an object whose bytes tell all that is told of it; false, if it is none.
func leaf(o api.Obj) (string, bool) {
	s := string(o.Bytes)
	switch o.Class {
	case class.String:
		return lex.Quote(s), true
	case class.Symbol:
		return symbol(s), true
	case class.Integer:
		return digits(o.Bytes), true
	case class.Complex:
		return "complex " + hexadecimal(o.Bytes), true
	case class.Class:
		return "class " + s, true
	}
	return "", false
}

func symbol(s string) string {
	if lex.PlainSymbol(s) {
		return "#" + s
	}
	return "#" + lex.Quote(s)
}

func digits(b []byte) string {
	n, err := number.Get(b)
	if err != api.OK || n.Pair {
		return unknown
	}
	return whole.Text(n.I)
}

func hexadecimal(b []byte) string {
	const signs = "0123456789abcdef"
	var out []byte
	for _, c := range b {
		out = append(out, signs[c>>4], signs[c&15])
	}
	return string(out)
}

// object writes an object with its slots, the first time that it comes.
func (w *writer) object(oop int64, o api.Obj) {
	if n := w.written.of(oop); n > 0 {
		w.text.WriteString("@" + strconv.Itoa(n))
		return
	}
	if w.written.count() == most {
		w.text.WriteString("..")
		return
	}
	n, _ := w.written.mark(oop)
	c, _ := w.v.Peek(o.Class) // what is not there has no bytes
	w.text.WriteString(strconv.Itoa(n) + ":" + string(c.Bytes) + "(")
	for i, x := range o.Slots {
		if i > 0 {
			w.text.WriteString(" ")
		}
		w.value(x)
	}
	w.text.WriteString(")")
}
