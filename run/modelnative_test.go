package run_test

import (
	"math/big"
	"slices"

	"lapidary/api"
)

// native does those of the natives that the model has.
func (m *model) native(c, selector string, self any, args []any) any {
	switch c {
	case "Object":
		return m.ofObject(selector, self, args)
	case "Class":
		return m.new(m.fresh(string(self.(className)), args))
	case "Integer":
		return m.ofInteger(selector, self, args)
	case "Block":
		return m.ofBlock(selector, self.(*closure), args)
	case "RcCounter":
		return m.ofCounter(selector, self.(*thing), args)
	}
	o := self.(*thing)
	switch {
	case selector == "size" && c == "Array":
		return int64(len(o.slots))
	case selector == "size" && c == "Dictionary":
		return int64(len(o.slots) / 2)
	case selector == "size":
		return int64(len(o.bytes))
	case selector == "asSymbol":
		return m.text("Symbol", o.bytes)
	case selector == "asString":
		return m.text("String", o.bytes)
	case selector == "=":
		p, is := args[0].(*thing)
		return is && p.class == o.class && p.bytes == o.bytes
	case selector == ",":
		p, is := args[0].(*thing)
		if !is || p.class != "String" {
			panic(fails{"wrong kind"})
		}
		return m.text("String", o.bytes+p.bytes)
	case c == "Dictionary":
		return m.ofDictionary(selector, o, args)
	}
	i, is := args[0].(int64)
	if !is {
		panic(fails{"wrong kind"})
	}
	if c == "String" {
		return m.byteAt(o, i, args[1:])
	}
	if i < 1 || i > int64(len(o.slots)) {
		panic(fails{"no such place"})
	}
	if selector == "at:put:" {
		kept(args[1])
		o.slots[i-1] = args[1]
	}
	return o.slots[i-1]
}

// byteAt is a byte of a String, which is set first, if there is one to be set.
func (m *model) byteAt(o *thing, i int64, set []any) any {
	for _, x := range set {
		if n, is := x.(int64); !is || n < 0 || n > 255 {
			panic(fails{"wrong argument"})
		}
	}
	if i < 1 || i > int64(len(o.bytes)) {
		panic(fails{"no such place"})
	}
	for _, x := range set {
		o.bytes = o.bytes[:i-1] + string([]byte{byte(x.(int64))}) + o.bytes[i:]
	}
	return int64(o.bytes[i-1])
}

// fresh is what an object of a class is at first; of Array with as many slots as are asked for.
func (m *model) fresh(c string, args []any) *thing {
	o := &thing{class: c}
	switch c {
	case "Array":
		for _, n := range args {
			o.slots = make([]any, n.(int64))
		}
	case "Dictionary":
	case "RcCounter":
		o.slots = []any{int64(0)}
	default:
		o.slots = make([]any, len(m.names(c)))
	}
	return o
}

func kept(x any) {
	if _, is := x.(*closure); is {
		panic(fails{"can not be kept"})
	}
}

func (m *model) ofObject(selector string, self any, args []any) any {
	switch selector {
	case "==":
		x, is := self.(*thing)
		y, also := args[0].(*thing)
		return self == args[0] || is && also && x.class == "Symbol" && y.class == "Symbol" && x.bytes == y.bytes
	case "class":
		return className(m.classOf(self))
	}
	if o, is := args[0].(*thing); is && o.class == "String" && o.bytes != "" {
		panic(fails{o.bytes})
	}
	panic(fails{"error"})
}

func asBig(x any) (*big.Int, bool) {
	switch x := x.(type) {
	case int64:
		return big.NewInt(x), true
	case *big.Int:
		return x, true
	}
	return nil, false
}

func (m *model) ofInteger(selector string, self any, args []any) any {
	x, _ := asBig(self)
	if selector == "asString" {
		return m.text("String", x.String())
	}
	y, is := asBig(args[0])
	if !is && selector == "=" {
		return false
	}
	if !is {
		panic(fails{"wrong kind"})
	}
	switch selector {
	case "+":
		return m.number(new(big.Int).Add(x, y))
	case "-":
		return m.number(new(big.Int).Sub(x, y))
	case "*":
		return m.number(new(big.Int).Mul(x, y))
	case "<":
		return x.Cmp(y) < 0
	case "=":
		return x.Cmp(y) == 0
	}
	if y.Sign() == 0 {
		panic(fails{"by nought"})
	}
	q, r := new(big.Int).QuoRem(x, y, new(big.Int))
	if r.Sign() != 0 && r.Sign() != y.Sign() {
		q.Sub(q, big.NewInt(1))
		r.Add(r, y)
	}
	if selector == "//" {
		return m.number(q)
	}
	return m.number(r)
}

func (m *model) ofBlock(selector string, self *closure, args []any) any {
	switch selector {
	case "numArgs":
		return int64(self.node.N)
	case "value", "value:", "value:value:":
		return m.block(self, args...)
	}
	other, is := args[0].(*closure)
	if !is {
		panic(fails{"wrong kind"})
	}
	switch selector {
	case "ensure:":
		return m.ensure(self, other)
	case "onError:":
		return m.onError(self, other)
	}
	for {
		test, is := m.block(self).(bool)
		if !is {
			panic(fails{"wrong kind"})
		}
		if !test {
			return nil
		}
		m.block(other)
	}
}

func (m *model) ensure(first, last *closure) any {
	x, p := m.try(first)
	if _, is := p.(enough); is {
		panic(p)
	}
	m.block(last)
	if p != nil {
		panic(p)
	}
	return x
}

// try is a block's value, or the panic by which it ended.
func (m *model) try(b *closure) (x, p any) {
	depth := m.depth
	defer func() {
		p = recover()
		m.depth = depth
	}()
	return m.block(b), nil
}

func (m *model) onError(first, rescue *closure) any {
	x, p := m.try(first)
	e, is := p.(fails)
	switch {
	case p == nil:
		return x
	case !is:
		panic(p)
	case rescue.node.N == 0:
		return m.block(rescue)
	}
	return m.block(rescue, m.text("String", e.text))
}

func (m *model) ofCounter(selector string, o *thing, args []any) any {
	if selector == "value" {
		return o.slots[0]
	}
	n, is := args[0].(int64)
	if !is {
		panic(fails{"wrong kind"})
	}
	if selector == "decrement:" {
		n = -n
	}
	sum := o.slots[0].(int64) + n
	if sum < -api.Small || sum >= api.Small {
		panic(fails{"too large"})
	}
	o.slots[0] = sum
	return o
}

func sameKey(x, y any) bool {
	a, is := x.(*thing)
	b, also := y.(*thing)
	if is && also && a.class == b.class && (a.class == "String" || a.class == "Symbol") {
		return a.bytes == b.bytes
	}
	p, is := x.(*big.Int)
	q, also := y.(*big.Int)
	if is && also {
		return p.Cmp(q) == 0
	}
	return x == y
}

func (m *model) ofDictionary(selector string, o *thing, args []any) any {
	at := -1
	for i := 0; i < len(o.slots) && at < 0; i += 2 {
		if sameKey(o.slots[i], args[0]) {
			at = i
		}
	}
	switch selector {
	case "includesKey:":
		return at >= 0
	case "at:put:":
		if at < 0 && len(o.slots)+2 > api.MaxSlots {
			panic(fails{"no room"})
		}
		kept(args[0])
		kept(args[1])
		if at < 0 {
			at = len(o.slots)
			o.slots = append(o.slots, args[0], nil)
		}
		o.slots[at+1] = args[1]
		return args[1]
	}
	if at < 0 {
		panic(fails{"no such key"})
	}
	x := o.slots[at+1]
	if selector == "removeKey:" {
		o.slots = slices.Delete(o.slots, at, at+2)
	}
	return x
}
