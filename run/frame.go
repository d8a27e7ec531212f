package run

import (
	"lapidary/api"
	"lapidary/code"
)

// frame is what is active: a unit, or a native that waits for one of its blocks.
type frame interface {
	// units is how many units it is.
	units() int
}

// item is a value on a stack or under a name. A block has its unit beside it, so that blocks that nobody has any more are not kept.
type item struct {
	api.Val
	block *block
}

// block is a block that can be run: where its steps are, and the unit it stands in.
type block struct {
	at    int // among the units of the source
	outer *unit
}

// args is how many arguments it has.
func (b *block) args() int {
	return b.outer.source.Units[b.at].Args
}

// unit is the source itself, a method or a block, while it is run, and as long as a block of it may be.
type unit struct {
	source *code.Code
	ins    []code.Ins
	next   int // which of ins
	stack  []item
	names  []item // its arguments, then its temps
	outer  *unit  // of a block the one it stands in
	home   *unit  // of a block the method or the source it stands in; of others itself
	self   item
	class  int64
}

func (u *unit) units() int { return 1 }

// waits is of natives: they are no units.
type waits struct{}

func (waits) units() int { return 0 }

// loop is a whileTrue:.
type loop struct {
	waits
	test, body *block
	inBody     bool
}

// ensured is an ensure:.
type ensured struct {
	waits
	last  *block
	first outcome // how what comes ahead of last ended; none, till it did
}

// guarded is an onError:.
type guarded struct {
	waits
	rescue   *block
	rescuing bool
}

// How something ended; none: it did not yet.
const (
	none = iota
	answered
	failed
	returned
)

// outcome is how something ended: by a value, by an error's text, or by the Return of a value, which ends all up to home.
type outcome struct {
	kind  int
	value item
	text  string
	home  *unit
}

func answer(x api.Val) outcome {
	return outcome{kind: answered, value: item{Val: x}}
}

func failure(text string) outcome {
	return outcome{kind: failed, text: text}
}

// result is the outcome of what answers a value, or an error's text.
func result(x api.Val, text string) outcome {
	if text != "" {
		return failure(text)
	}
	return answer(x)
}

// method is a unit of the first of a source's steps. (The selector under which it stands need not be its own: arguments that it has not are left out, those that are missing are Nil.)
func method(source code.Code, who int64, self item, args []item) *unit {
	u := &unit{source: &source, self: self, class: who}
	u.home = u
	u.begin(0, args)
	return u
}

// unit is what is run of a block.
func (b *block) unit(args []item) *unit {
	o := b.outer
	u := &unit{source: o.source, outer: o, home: o.home, self: o.self, class: o.class}
	u.begin(b.at, args)
	return u
}

func (u *unit) begin(at int, args []item) {
	steps := u.source.Units[at]
	u.ins = steps.Ins
	u.names = make([]item, steps.Names)
	copy(u.names[:steps.Args], args)
}

func (u *unit) push(x item) {
	u.stack = append(u.stack, x)
}

func (u *unit) top() item {
	return u.stack[len(u.stack)-1]
}

func (u *unit) pop() item {
	return u.take(1)[0]
}

// take takes the last so many values off the stack, in the order in which they came.
func (u *unit) take(count int) []item {
	from := len(u.stack) - count
	out := append([]item(nil), u.stack[from:]...)
	clear(u.stack[from:])
	u.stack = u.stack[:from]
	return out
}

// out is the unit that stands so many units out.
func (u *unit) out(count int) *unit {
	for range count {
		u = u.outer
	}
	return u
}
