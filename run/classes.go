package run

import (
	"strings"

	"lapidary/api"
	"lapidary/class"
)

// ofClass does a native of Class.
func (r *Run) ofClass(selector string, self api.Val, args []api.Val) (api.Val, string) {
	switch selector {
	case "new":
		return made(class.New(r.view, named(self), 0))
	case "new:":
		if args[0].K != api.Int {
			return api.Val{}, wrongKind
		}
		return made(class.New(r.view, named(self), int(args[0].N)))
	case "subclass:slots:":
		return r.subclass(self, args[0], args[1])
	case "compile:":
		return r.compile(self, args[0])
	}
	o, text := r.receiver(self, class.Class)
	if text != "" {
		return api.Val{}, text
	}
	if selector == "name" {
		return r.text(class.String, string(o.Bytes))
	}
	if len(o.Slots) == 0 {
		return api.Val{}, noPlace
	}
	return o.Slots[0], ""
}

// named is the oop that a value names, 0 if it names none.
func named(x api.Val) int64 {
	if x.K != api.Ref {
		return 0
	}
	return x.N
}

// subclass makes a class, and lets it stand in the root under its name.
func (r *Run) subclass(self, name, slots api.Val) (api.Val, string) {
	title, is := class.Text(r.view, name, class.Symbol)
	if !is {
		return api.Val{}, wrongKind
	}
	list, is := class.Text(r.view, slots, class.String)
	if !is {
		return api.Val{}, wrongKind
	}
	c, text := made(class.Make(r.view, named(self), title, strings.FieldsFunc(list, isBlank)))
	if text != "" {
		return api.Val{}, text
	}
	return r.atPut(ref(class.Root), name, c)
}

// isBlank tells whether it is one of the blanks that stand between a source's words.
func isBlank(c rune) bool {
	return c == ' ' || c == '\t' || c == '\n' || c == '\r'
}

func (r *Run) compile(self, source api.Val) (api.Val, string) {
	text, is := class.Text(r.view, source, class.String)
	if !is {
		return api.Val{}, wrongKind
	}
	selector, _, err := class.Define(r.view, named(self), text)
	if err != api.OK {
		return api.Val{}, word(err)
	}
	return r.text(class.Symbol, selector)
}
