package run

import (
	"lapidary/api"
	"lapidary/class"
	"lapidary/number"
	"lapidary/whole"
)

// ofNumber does a native of Integer or of Complex.
func (r *Run) ofNumber(selector string, self api.Val, args []api.Val) (api.Val, string) {
	x, is := r.number(self)
	if !is {
		return api.Val{}, wrongKind
	}
	switch selector {
	case "asString":
		if x.Pair {
			return api.Val{}, wrongKind
		}
		return r.text(class.String, whole.Text(x.I))
	case "re":
		return r.reckoned(number.Re(x))
	case "im":
		return r.reckoned(number.Im(x))
	}
	y, is := r.number(args[0])
	if !is && selector == "=" {
		return truth(false), ""
	}
	if !is {
		return api.Val{}, wrongKind
	}
	return r.ofTwo(selector, x, y)
}

func (r *Run) ofTwo(selector string, x, y number.Num) (api.Val, string) {
	if selector == "im:" {
		if x.Pair || y.Pair {
			return api.Val{}, wrongKind
		}
		return r.reckoned(number.Pair(x.I, y.I))
	}
	op := operation(selector)
	z, is, err := number.Do(op, x, y)
	if err == api.OK && (op == number.Equal || op == number.Less) {
		return truth(is), ""
	}
	return r.reckoned(z, err)
}

// operation is what a sign does to two numbers; -1, if it is none.
func operation(sign string) int {
	switch sign {
	case "+":
		return number.Plus
	case "-":
		return number.Minus
	case "*":
		return number.Times
	case "/":
		return number.Over
	case "//":
		return number.Div
	case `\\`:
		return number.Mod
	case "=":
		return number.Equal
	case "<":
		return number.Less
	}
	return -1
}

// number is a value as a number, if it is one.
func (r *Run) number(x api.Val) (number.Num, bool) {
	switch x.K {
	case api.Int:
		return number.Num{I: whole.Of(x.N)}, true
	case api.Ref:
		o, _ := r.view.Get(x.N)
		if o.Class != class.Integer && o.Class != class.Complex {
			return number.Num{}, false
		}
		n, err := number.Get(o.Bytes)
		return n, err == api.OK
	}
	return number.Num{}, false
}

// reckoned is what comes of a reckoning as a value.
func (r *Run) reckoned(x number.Num, err api.Errno) (api.Val, string) {
	if err != api.OK {
		return api.Val{}, word(err)
	}
	return r.back(x)
}

// back is a number as a value: one that is not small is a new object.
func (r *Run) back(x number.Num) (api.Val, string) {
	if n, small := whole.Small(x.I); !x.Pair && small && isSmall(n) {
		return api.Val{K: api.Int, N: n}, ""
	}
	bytes, err := number.Put(x)
	if err != api.OK {
		return api.Val{}, word(err)
	}
	c := int64(class.Integer)
	if x.Pair {
		c = class.Complex
	}
	return r.make(api.Obj{Class: c, Bytes: bytes})
}

func isSmall(n int64) bool {
	return n >= -api.Small && n < api.Small
}
