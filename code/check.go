package code

import (
	"lapidary/api"
	"lapidary/tree"
)

// Check: can steps be?
func Check(c Code, slots int) api.Errno {
	if len(c.Units) == 0 {
		return api.ErrForm
	}
	for _, u := range c.Units {
		if !sound(u) || !c.names(u, slots) {
			return api.ErrForm
		}
	}
	return api.OK
}

// Depth: how many values a unit's steps need at most.
func Depth(u Unit) int {
	most, _, ok := heights(u)
	if !ok {
		return -1
	}
	return most
}

// heights goes through a unit's steps: how many values stand on the stack at most, and behind the last step; false, if a step can not be.
func heights(u Unit) (most, now int, ok bool) {
	for _, x := range u.Ins {
		above, more, known := effect(x)
		if !known || x.B < 0 || now <= above {
			return 0, 0, false
		}
		now += more
		most = max(most, now)
	}
	return most, now, true
}

// effect tells above how many values there must be for a step, and how many more there are behind it; false, if there is no such step. (Above and not at least, as one more than the greatest B is no number.)
func effect(x Ins) (above, more int, known bool) {
	switch x.Op {
	case Lit, Temp, Slot, Global, Self, Const, Block:
		return -1, 1, true
	case Dup:
		return 0, 1, true
	case SetTemp, SetSlot:
		return 0, 0, true
	case Pop, End, Return:
		return 0, -1, true
	case Send, Super:
		return x.B, -x.B, true
	}
	return 0, 0, false
}

// sound tells whether a unit can be by itself, whatever it stands in.
func sound(u Unit) bool {
	last := len(u.Ins) - 1
	for i, x := range u.Ins {
		if ends := x.Op == End || x.Op == Return; ends != (i == last) {
			return false
		}
	}
	_, left, ok := heights(u)
	return last >= 0 && ok && left == 0 && 0 <= u.Args && u.Args <= u.Names
}

// names tells whether all that a unit's steps name is there.
func (c *Code) names(u Unit, slots int) bool {
	for _, x := range u.Ins {
		if x.A < 0 || x.B < 0 || !c.has(x, slots) {
			return false
		}
	}
	return true
}

func (c *Code) has(x Ins, slots int) bool {
	switch x.Op {
	case Lit:
		return x.A < len(c.Lits)
	case Global:
		return x.A < len(c.Names)
	case Slot, SetSlot:
		return x.A < slots
	case Const:
		return x.A <= 2
	case Send, Super:
		return x.A < len(c.Sels) && x.B == tree.Args(c.Sels[x.A])
	case Block:
		return x.A < len(c.Units)
	}
	return true
}
