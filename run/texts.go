package run

import (
	"math"

	"lapidary/api"
	"lapidary/class"
)

// ofString does a native of String.
func (r *Run) ofString(selector string, self api.Val, args []api.Val) (api.Val, string) {
	o, text := r.receiver(self, class.String)
	if text != "" {
		return api.Val{}, text
	}
	switch selector {
	case "size":
		return count(len(o.Bytes)), ""
	case "at:":
		i, text := place(args[0], len(o.Bytes))
		if text != "" {
			return api.Val{}, text
		}
		return count(int(o.Bytes[i])), ""
	case "at:put:":
		return r.setByte(self.N, o, args[0], args[1])
	case "asSymbol":
		return r.text(class.Symbol, string(o.Bytes))
	}
	other, is := class.Text(r.view, args[0], class.String)
	if selector == "=" {
		return truth(is && other == string(o.Bytes)), ""
	}
	if !is {
		return api.Val{}, wrongKind
	}
	return r.text(class.String, string(o.Bytes)+other)
}

// setByte asks for the byte ahead of the place, as the chapter names that error first.
func (r *Run) setByte(oop int64, o api.Obj, at, x api.Val) (api.Val, string) {
	if at.K != api.Int {
		return api.Val{}, wrongKind
	}
	if x.K != api.Int || x.N < 0 || x.N > math.MaxUint8 {
		return api.Val{}, wrongArg
	}
	i, text := place(at, len(o.Bytes))
	if text != "" {
		return api.Val{}, text
	}
	o.Bytes[i] = byte(x.N)
	return r.put(oop, o, x)
}

// ofSymbol does a native of Symbol.
func (r *Run) ofSymbol(selector string, self api.Val, args []api.Val) (api.Val, string) {
	o, text := r.receiver(self, class.Symbol)
	if text != "" {
		return api.Val{}, text
	}
	switch selector {
	case "size":
		return count(len(o.Bytes)), ""
	case "asString":
		return r.text(class.String, string(o.Bytes))
	}
	other, is := class.Text(r.view, args[0], class.Symbol)
	return truth(is && other == string(o.Bytes)), ""
}
