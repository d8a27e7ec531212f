package run

import (
	"strings"

	"lapidary/api"
	"lapidary/class"
	"lapidary/number"
	"lapidary/whole"
)

// literal makes a literal of its text.
func (r *Run) literal(text string) (api.Val, string) {
	l := literal{r, text}
	return l.value()
}

// literal is the text of a literal, as tree.Text writes it, of which rest is still to be read. (As a source it can not be read again: a list may be longer than any source, as its symbols are written out.)
type literal struct {
	run  *Run
	rest string
}

func (l *literal) value() (api.Val, string) {
	switch {
	case l.skip("#("):
		return l.list()
	case l.skip("#"):
		return l.run.text(class.Symbol, l.part())
	case strings.HasPrefix(l.rest, quote):
		return l.run.text(class.String, l.part())
	}
	switch s := l.part(); s {
	case "nil":
		return api.Val{}, ""
	case "false", "true":
		return truth(s == "true"), ""
	default:
		n, err := whole.Read(s)
		if err != api.OK {
			return api.Val{}, word(err)
		}
		return l.run.back(number.Num{I: n})
	}
}

// list makes the elements up to the end of a list, and the Array of them.
func (l *literal) list() (api.Val, string) {
	var slots []api.Val
	for !l.skip(")") {
		x, text := l.value()
		if text != "" {
			return api.Val{}, text
		}
		slots = append(slots, x)
		l.skip(" ")
	}
	return l.run.make(api.Obj{Class: class.Array, Slots: slots})
}

const quote = "'"

// skip goes on behind what is ahead, if it is that.
func (l *literal) skip(ahead string) bool {
	rest, is := strings.CutPrefix(l.rest, ahead)
	l.rest = rest
	return is
}

// part is what stands between quotes, or up to the end of an element.
func (l *literal) part() string {
	if l.skip(quote) {
		return l.quoted()
	}
	end := strings.IndexAny(l.rest, " )")
	if end < 0 {
		end = len(l.rest)
	}
	out := l.rest[:end]
	l.rest = l.rest[end:]
	return out
}

// quoted is what stands up to the next quote; two of them at once are one.
func (l *literal) quoted() string {
	var out strings.Builder
	for {
		part, rest, _ := strings.Cut(l.rest, quote)
		out.WriteString(part)
		l.rest = rest
		if !l.skip(quote) {
			return out.String()
		}
		out.WriteString(quote)
	}
}
