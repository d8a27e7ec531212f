package run

import (
	"slices"

	"lapidary/api"
	"lapidary/class"
	"lapidary/code"
	"lapidary/kernel"
)

// send sends a message: its receiver and its arguments are on top of the stack.
func (r *Run) send(u *unit, x code.Ins) {
	args, self := u.take(x.B), u.pop()
	from := r.classOf(self.Val)
	if x.Op == code.Super {
		from = r.above(u.class)
	}
	selector := u.source.Sels[x.A]
	how, told := r.message(from, selector, self, args)
	if told {
		r.carry(how)
	}
}

// classOf is a value's class, without reading the object.
func (r *Run) classOf(x api.Val) int64 {
	if x.K != api.Ref {
		return class.Of(r.view, x)
	}
	o, _ := r.view.Peek(x.N) // what is not there has the class 0
	return o.Class
}

// above is the class at which a message to super begins, 0 if there is none.
func (r *Run) above(c int64) int64 {
	o, _ := r.view.Get(c)
	if len(o.Slots) == 0 || o.Slots[0].K != api.Ref {
		return 0
	}
	return o.Slots[0].N
}

// message looks for what a message means, from a class on, and does it; as tell answers it.
func (r *Run) message(from int64, selector string, self item, args []item) (outcome, bool) {
	chain := class.Chain(r.view, from)
	source, who, found := class.Find(r.view, from, selector)
	for _, c := range chain {
		if found && c == who {
			return r.invoke(source, who, self, args)
		}
		if slices.Contains(kernel.Natives(c), selector) {
			return r.native(c, selector, self, args)
		}
	}
	return failure(notKnown + selector), true
}

// invoke lets a method be run next.
func (r *Run) invoke(source string, who int64, self item, args []item) (outcome, bool) {
	steps, _, err := code.Method(source, class.Names(r.view, who))
	if err != api.OK {
		return failure(noProgram), true
	}
	r.entry = method(steps, who, self, args)
	return outcome{}, false
}

// slot is one of an object's slots.
func (r *Run) slot(self api.Val, at int) (api.Val, string) {
	o, text := r.withSlot(self, at)
	if text != "" {
		return api.Val{}, text
	}
	return o.Slots[at], ""
}

func (r *Run) setSlot(self api.Val, at int, x api.Val) string {
	o, text := r.withSlot(self, at)
	if text != "" {
		return text
	}
	o.Slots[at] = x
	return word(r.view.Put(self.N, o))
}

// withSlot is the object that a value names, if it has such a slot.
func (r *Run) withSlot(self api.Val, at int) (api.Obj, string) {
	if self.K != api.Ref {
		return api.Obj{}, noPlace
	}
	o, _ := r.view.Get(self.N)
	if at >= len(o.Slots) {
		return api.Obj{}, noPlace
	}
	return o, ""
}

// global is what a name means beyond all units and slots.
func (r *Run) global(name string) (api.Val, string) {
	if c := kernel.Oop(name); c != 0 {
		return ref(c), ""
	}
	if name == "Root" {
		return ref(class.Root), ""
	}
	o, _ := r.view.Get(class.Root)
	for i := 0; i+1 < len(o.Slots); i += 2 {
		if text, is := class.Text(r.view, o.Slots[i], class.Symbol); is && text == name {
			return o.Slots[i+1], ""
		}
	}
	return api.Val{}, noName
}
