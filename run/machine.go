package run

import (
	"lapidary/api"
	"lapidary/class"
	"lapidary/code"
)

// advance does what comes next; false, if that is a step, and none is left in this Go.
func (r *Run) advance() bool {
	if r.entry != nil {
		return r.enter()
	}
	u, is := r.onTop().(*unit) // a native is there only while what it waits for is the entry
	return is && r.work(u)
}

func (r *Run) onTop() frame {
	return r.frames[len(r.frames)-1]
}

func (r *Run) drop() {
	last := len(r.frames) - 1
	r.frames[last] = nil
	r.frames = r.frames[:last]
}

// step counts a step, if one is left.
func (r *Run) step() bool {
	if r.steps >= r.until {
		return false
	}
	r.steps++
	return true
}

// enter runs the unit that is to be run.
func (r *Run) enter() bool {
	if r.depth() >= api.MaxDepth {
		r.entry = nil
		r.carry(failure(tooDeep))
		return true
	}
	if !r.step() {
		return false
	}
	r.frames = append(r.frames, r.entry)
	r.entry = nil
	return true
}

// depth is how many units are active; the source itself, which is the first one, does not count.
func (r *Run) depth() int {
	count := 0
	for _, f := range r.frames[1:] {
		count += f.units()
	}
	return count
}

// carry tells how something ended to what waited for it, and so on, till there is more to do, or nothing is active.
func (r *Run) carry(how outcome) {
	for told := true; told; {
		if len(r.frames) == 0 {
			r.over, r.value, r.failed = true, how.value.Val, how.text
			return
		}
		how, told = r.tell(how)
	}
}

// tell tells the frame on top how what it waited for ended: what is to be told to the one that is on top then, or false, if something is to be run first.
func (r *Run) tell(how outcome) (outcome, bool) {
	switch f := r.onTop().(type) {
	case *unit:
		return r.tellUnit(f, how)
	case *loop:
		return r.tellLoop(f, how)
	case *ensured:
		return r.tellEnsured(f, how)
	case *guarded:
		return r.tellGuarded(f, how)
	}
	return r.leave(how)
}

// leave ends the frame on top.
func (r *Run) leave(how outcome) (outcome, bool) {
	r.drop()
	return how, true
}

func (r *Run) tellUnit(u *unit, how outcome) (outcome, bool) {
	if how.kind == answered {
		u.push(how.value)
		return outcome{}, false
	}
	if how.kind == returned && how.home == u {
		how = outcome{kind: answered, value: how.value}
	}
	return r.leave(how)
}

func (r *Run) tellLoop(f *loop, how outcome) (outcome, bool) {
	if how.kind != answered {
		return r.leave(how)
	}
	if f.inBody {
		f.inBody = false
		return r.start(f.test)
	}
	switch how.value.K {
	case api.True:
		f.inBody = true
		return r.start(f.body)
	case api.False:
		return r.leave(answer(api.Val{}))
	}
	return r.leave(failure(wrongKind))
}

func (r *Run) tellEnsured(f *ensured, how outcome) (outcome, bool) {
	if f.first.kind == none {
		f.first = how
		return r.start(f.last)
	}
	if how.kind == answered { // by the last block, which nobody asked for a value
		how = f.first
	}
	return r.leave(how)
}

func (r *Run) tellGuarded(f *guarded, how outcome) (outcome, bool) {
	if how.kind != failed || f.rescuing {
		return r.leave(how)
	}
	f.rescuing = true
	if f.rescue.args() == 0 {
		return r.start(f.rescue)
	}
	e, text := r.text(class.String, how.text)
	if text != "" {
		return r.leave(failure(text))
	}
	return r.start(f.rescue, item{Val: e})
}

// start lets a block be run next, as tell answers it.
func (r *Run) start(b *block, args ...item) (outcome, bool) {
	if b.args() != len(args) {
		return failure(wrongCount), true
	}
	r.entry = b.unit(args)
	return outcome{}, false
}

// leaving is the Return of a value from a unit.
func (r *Run) leaving(u *unit, x item) outcome {
	how := failure(noReturn)
active:
	for i := range r.frames {
		switch f := r.frames[len(r.frames)-1-i].(type) {
		case *unit:
			if f == u.home {
				how = outcome{kind: returned, value: x, home: f}
				break active
			}
		}
	}
	return how
}

// work does the next of a unit's steps of code.
func (r *Run) work(u *unit) bool {
	x := u.ins[u.next]
	if (x.Op == code.Send || x.Op == code.Super) && !r.step() {
		return false
	}
	u.next++
	r.do(u, x)
	return true
}

func (r *Run) do(u *unit, x code.Ins) {
	switch x.Op {
	case code.Lit:
		r.carry(result(r.literal(u.source.Lits[x.A])))
	case code.Temp:
		u.push(u.out(x.A).names[x.B])
	case code.SetTemp:
		u.out(x.A).names[x.B] = u.top()
	case code.Slot:
		r.carry(result(r.slot(u.self.Val, x.A)))
	case code.SetSlot:
		if text := r.setSlot(u.self.Val, x.A, u.top().Val); text != "" {
			r.carry(failure(text))
		}
	case code.Global:
		r.carry(result(r.global(u.source.Names[x.A])))
	case code.Self:
		u.push(u.self)
	case code.Const:
		u.push(item{Val: api.Val{K: x.A}})
	case code.Send, code.Super:
		r.send(u, x)
	case code.Block:
		u.push(item{api.Val{K: api.Block, N: r.blocks}, &block{x.A, u}})
		r.blocks++
	case code.Dup:
		u.push(u.top())
	case code.Pop:
		u.pop()
	case code.End:
		x := u.pop()
		r.drop()
		r.carry(outcome{kind: answered, value: x})
	case code.Return:
		r.carry(r.leaving(u, u.pop()))
	}
}
