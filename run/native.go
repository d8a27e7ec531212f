package run

import (
	"lapidary/api"
	"lapidary/class"
)

// native does one of the natives of a class; as tell answers it.
func (r *Run) native(c int64, selector string, self item, args []item) (outcome, bool) {
	if c == class.Block {
		return r.ofBlock(selector, self, args)
	}
	var values []api.Val
	for _, x := range args {
		values = append(values, x.Val)
	}
	return result(r.ofObject(c, selector, self.Val, values)), true
}

// ofObject does a native that runs no block.
func (r *Run) ofObject(c int64, selector string, self api.Val, args []api.Val) (api.Val, string) {
	switch c {
	case class.Class:
		return r.ofClass(selector, self, args)
	case class.Integer, class.Complex:
		return r.ofNumber(selector, self, args)
	case class.String:
		return r.ofString(selector, self, args)
	case class.Symbol:
		return r.ofSymbol(selector, self, args)
	case class.Array:
		return r.ofArray(selector, self, args)
	case class.Dictionary:
		return r.ofDictionary(selector, self, args)
	case class.Counter:
		return r.ofCounter(selector, self, args)
	case class.Bag:
		return r.ofBag(selector, self, args)
	}
	return r.ofAny(selector, self, args)
}

// ofAny does a native of Object.
func (r *Run) ofAny(selector string, self api.Val, args []api.Val) (api.Val, string) {
	switch selector {
	case "==":
		return truth(self == args[0] || r.sameSymbol(self, args[0])), ""
	case "class":
		return ref(r.classOf(self)), ""
	}
	if text, is := class.Text(r.view, args[0], class.String); is && text != "" {
		return api.Val{}, text
	}
	return api.Val{}, someFailure
}

func (r *Run) sameSymbol(x, y api.Val) bool {
	a, is := class.Text(r.view, x, class.Symbol)
	if !is {
		return false
	}
	b, is := class.Text(r.view, y, class.Symbol)
	return is && a == b
}

// receiver reads the object that a native of a class is done to.
func (r *Run) receiver(self api.Val, c int64) (api.Obj, string) {
	if self.K != api.Ref {
		return api.Obj{}, wrongKind
	}
	o, err := r.view.Get(self.N)
	return o, rightClass(o, c, err)
}

// unread is the object that a native of a class is done to, without reading it.
func (r *Run) unread(self api.Val, c int64) (api.Obj, string) {
	if self.K != api.Ref {
		return api.Obj{}, wrongKind
	}
	o, err := r.view.Peek(self.N)
	return o, rightClass(o, c, err)
}

// rightClass tells what is wrong with an object that was to be one of a class.
func rightClass(o api.Obj, c int64, err api.Errno) string {
	if err == api.OK && o.Class != c {
		return wrongKind
	}
	return word(err)
}

// make makes a new object.
func (r *Run) make(o api.Obj) (api.Val, string) {
	oop, err := r.view.Make(o)
	return made(oop, err)
}

// text makes a new object of a class, with that text.
func (r *Run) text(c int64, text string) (api.Val, string) {
	return r.make(api.Obj{Class: c, Bytes: []byte(text)})
}

// made is the value of a new object.
func made(oop int64, err api.Errno) (api.Val, string) {
	if err != api.OK {
		return api.Val{}, word(err)
	}
	return ref(oop), ""
}

// put makes an object another one; x is the answer.
func (r *Run) put(oop int64, o api.Obj, x api.Val) (api.Val, string) {
	if err := r.view.Put(oop, o); err != api.OK {
		return api.Val{}, word(err)
	}
	return x, ""
}

func ref(oop int64) api.Val {
	return api.Val{K: api.Ref, N: oop}
}

// count is how many there are, as a value.
func count(n int) api.Val {
	return api.Val{K: api.Int, N: int64(n)}
}

func truth(is bool) api.Val {
	if is {
		return api.Val{K: api.True}
	}
	return api.Val{K: api.False}
}

// place is where the argument of at: stands among so many, from 0 on.
func place(x api.Val, size int) (int, string) {
	if x.K != api.Int {
		return 0, wrongKind
	}
	if x.N < 1 || x.N > int64(size) {
		return 0, noPlace
	}
	return int(x.N - 1), ""
}
