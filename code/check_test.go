package code_test

import (
	"math"
	"testing"

	"lapidary/api"
	"lapidary/code"
)

func plain(ops ...int) []code.Ins {
	var out []code.Ins
	for _, op := range ops {
		out = append(out, code.Ins{Op: op})
	}
	return out
}

// P10.2: the most values that ever stand there.
func TestDepth(t *testing.T) {
	for _, x := range []struct {
		want int
		ins  []code.Ins
	}{
		{0, nil},
		{1, plain(code.Lit)},
		{1, plain(code.Temp)},
		{1, plain(code.Slot)},
		{1, plain(code.Global)},
		{1, plain(code.Self)},
		{1, plain(code.Const)},
		{1, plain(code.Block)},
		{1, plain(code.Lit, code.End)},
		{1, plain(code.Lit, code.Return)},
		{1, plain(code.Lit, code.Pop, code.Lit, code.Pop, code.Self, code.Return)},
		{2, plain(code.Lit, code.Dup)},
		{3, plain(code.Lit, code.Dup, code.Dup, code.Pop, code.Pop, code.Pop, code.Lit)},
		{1, plain(code.Lit, code.SetTemp, code.SetSlot, code.End)},
		{1, plain(code.Lit, code.Send, code.Super, code.End)},
		{2, plain(code.Lit, code.End, code.Lit, code.Lit)},
		{2, []code.Ins{{Op: code.Lit}, {Op: code.Lit}, {Op: code.Send, B: 1}, {Op: code.Lit}, {Op: code.Super, B: 1}}},
		{3, []code.Ins{{Op: code.Lit}, {Op: code.Lit}, {Op: code.Lit}, {Op: code.Send, B: 2}, {Op: code.End}}},
		{1, []code.Ins{{Op: code.Lit, A: -5}, {Op: code.End, A: math.MinInt}}},
		{1, []code.Ins{{Op: code.Temp, A: 1 << 40, B: math.MaxInt}}},
	} {
		if got := code.Depth(code.Unit{Args: -1, Names: -2, Ins: x.ins}); got != x.want {
			t.Errorf("%v: %d, want %d", x.ins, got, x.want)
		}
	}
}

// P10.2: -1, where values are not there, B is below 0, or there is no such step.
func TestDepthOfNone(t *testing.T) {
	for _, ins := range [][]code.Ins{
		plain(code.Dup),
		plain(code.Pop),
		plain(code.SetTemp),
		plain(code.SetSlot),
		plain(code.End),
		plain(code.Return),
		plain(code.Send),
		plain(code.Super),
		plain(code.Lit, code.Pop, code.Dup),
		plain(code.Lit, code.End, code.End),
		{{Op: code.Lit}, {Op: code.Send, B: 1}},
		{{Op: code.Lit}, {Op: code.Super, B: 1}},
		{{Op: code.Lit}, {Op: code.Lit}, {Op: code.Send, B: 2}},
		{{Op: code.Lit}, {Op: code.Send, B: -1}},
		{{Op: code.Lit}, {Op: code.Super, B: -1}},
		{{Op: code.Lit}, {Op: code.Send, B: math.MaxInt}},
		{{Op: code.Lit}, {Op: code.Super, B: math.MaxInt}},
		{{Op: code.Lit}, {Op: code.Send, B: math.MinInt}},
		{{Op: code.Temp, B: -1}},
		{{Op: code.Lit, B: -1}, {Op: code.End}},
		{{Op: code.Lit}, {Op: code.End, B: math.MinInt}},
		{{Op: -1}},
		{{Op: 15}},
		{{Op: code.Lit}, {Op: 15}},
		{{Op: code.Lit}, {Op: math.MaxInt}, {Op: code.End}},
		{{Op: math.MinInt}},
	} {
		if got := code.Depth(code.Unit{Ins: ins}); got != -1 {
			t.Errorf("%v: %d, want -1", ins, got)
		}
	}
}

// stacked runs steps on a stack of values, by what the chapter says of each.
func stacked(ins []code.Ins) int {
	var stack []int
	most := 0
	take := func(count int) bool {
		if count > len(stack) {
			return false
		}
		stack = stack[:len(stack)-count]
		return true
	}
	for _, x := range ins {
		ok := true
		switch x.Op {
		case code.Dup:
			ok = take(1)
			stack = append(stack, 1, 1)
		case code.SetTemp, code.SetSlot:
			ok = take(1)
			stack = append(stack, 1)
		case code.Pop, code.End, code.Return:
			ok = take(1)
		case code.Send, code.Super:
			ok = take(x.B) && take(1)
			stack = append(stack, 1)
		default:
			stack = append(stack, 1)
		}
		if !ok {
			return -1
		}
		most = max(most, len(stack))
	}
	return most
}

// P10.2: all units of up to five steps are as a stack of values tells.
func TestDepthOfAll(t *testing.T) {
	kinds := []code.Ins{{Op: code.Lit}, {Op: code.SetTemp}, {Op: code.Send}, {Op: code.Send, B: 1}, {Op: code.Super, B: 2}, {Op: code.Dup}, {Op: code.Pop}, {Op: code.Return}}
	var grow func(ins []code.Ins)
	grow = func(ins []code.Ins) {
		if got, want := code.Depth(code.Unit{Ins: ins}), stacked(ins); got != want {
			t.Fatalf("%v: %d, want %d", ins, got, want)
		}
		if len(ins) == 5 {
			return
		}
		for _, x := range kinds {
			grow(append(ins[:len(ins):len(ins)], x))
		}
	}
	grow(nil)
}

// every is a code, for two slots, with every step in it.
func every() code.Code {
	return code.Code{
		Sel: "foo:",
		Units: []code.Unit{
			{Args: 1, Names: 2, Ins: []code.Ins{
				{Op: code.Lit, A: 1}, {Op: code.SetTemp, A: 0, B: 1}, {Op: code.Pop},
				{Op: code.Slot, A: 1}, {Op: code.SetSlot, A: 1}, {Op: code.Dup}, {Op: code.Global, A: 1}, {Op: code.Temp, B: 1},
				{Op: code.Send, A: 1, B: 2}, {Op: code.Pop}, {Op: code.Const, A: 2}, {Op: code.Super, A: 2, B: 1}, {Op: code.Pop},
				{Op: code.Block, A: 1}, {Op: code.Send}, {Op: code.Pop}, {Op: code.Self}, {Op: code.Return},
			}},
			{Ins: []code.Ins{{Op: code.Temp, A: 1}, {Op: code.End}}},
		},
		Lits:  []string{"1", "2"},
		Names: []string{"A", "B"},
		Sels:  []string{"foo", "at:put:", "+"},
	}
}

// P10.2: codes that can be, at the edges of what they name.
func TestChecks(t *testing.T) {
	for name, change := range map[string]func(c *code.Code){
		"nothing":                        func(c *code.Code) {},
		"no selector":                    func(c *code.Code) { c.Sel = "" },
		"as many arguments as names":     func(c *code.Code) { c.Units[0].Args = 2 },
		"no names":                       func(c *code.Code) { c.Units[0].Args, c.Units[0].Names = 0, 0 },
		"a name of a unit far out":       func(c *code.Code) { c.Units[1].Ins[0].A = math.MaxInt },
		"a name of a unit that may have": func(c *code.Code) { c.Units[1].Ins[0].B = 7 },
		"a block of itself":              func(c *code.Code) { c.Units[0].Ins[13].A = 0 },
		"Return for End":                 func(c *code.Code) { c.Units[1].Ins[1].Op = code.Return },
		"End for Return":                 func(c *code.Code) { c.Units[0].Ins[17].Op = code.End },
		"the first of all":               func(c *code.Code) { c.Units[0].Ins[0].A, c.Units[0].Ins[3].A, c.Units[0].Ins[6].A = 0, 0, 0 },
		"nil":                            func(c *code.Code) { c.Units[0].Ins[10].A = 0 },
		"more in the lists":              func(c *code.Code) { c.Lits, c.Names = append(c.Lits, "3"), append(c.Names, "") },
		"a unit that nobody names":       func(c *code.Code) { c.Units = append(c.Units, c.Units[1]) },
	} {
		c := every()
		change(&c)
		if err := code.Check(c, 2); err != api.OK {
			t.Error(name, err)
		}
	}
	if code.Check(every(), math.MaxInt) != api.OK {
		t.Error("slots that are not used")
	}
}

// P10.2: each way in which a code can not be.
func TestChecksNot(t *testing.T) {
	step := func(at int, x code.Ins) func(c *code.Code) {
		return func(c *code.Code) { c.Units[0].Ins[at] = x }
	}
	for name, change := range map[string]func(c *code.Code){
		"no unit":                       func(c *code.Code) { c.Units = nil },
		"a unit without steps":          func(c *code.Code) { c.Units[1].Ins = nil },
		"Depth -1":                      func(c *code.Code) { c.Units[1].Ins = plain(code.Pop, code.Self, code.Self, code.End) },
		"Depth -1 at the last step":     func(c *code.Code) { c.Units[1].Ins = plain(code.End) },
		"the last one does not end":     func(c *code.Code) { c.Units[1].Ins = plain(code.Self, code.Pop) },
		"another one ends":              func(c *code.Code) { c.Units[1].Ins = plain(code.Self, code.End, code.Self, code.End) },
		"another one returns":           func(c *code.Code) { c.Units[1].Ins = plain(code.Self, code.Return, code.Self, code.End) },
		"two ends":                      func(c *code.Code) { c.Units[1].Ins = plain(code.Self, code.Self, code.End, code.End) },
		"a value is left":               func(c *code.Code) { c.Units[1].Ins = plain(code.Self, code.Self, code.End) },
		"arguments below 0":             func(c *code.Code) { c.Units[1].Args = -1 },
		"more arguments than names":     func(c *code.Code) { c.Units[1].Args = 1 },
		"names below 0":                 func(c *code.Code) { c.Units[1].Names = -1 },
		"names and arguments below 0":   func(c *code.Code) { c.Units[1].Args, c.Units[1].Names = -2, -1 },
		"no such step":                  step(2, code.Ins{Op: 15}),
		"a step below 0":                step(2, code.Ins{Op: -1}),
		"a literal that is not there":   step(0, code.Ins{Op: code.Lit, A: 2}),
		"a literal below 0":             step(0, code.Ins{Op: code.Lit, A: -1}),
		"a literal's B below 0":         step(0, code.Ins{Op: code.Lit, B: -1}),
		"a slot that is not there":      step(3, code.Ins{Op: code.Slot, A: 2}),
		"a slot below 0":                step(3, code.Ins{Op: code.Slot, A: -1}),
		"a set slot that is not there":  step(4, code.Ins{Op: code.SetSlot, A: 2}),
		"a set slot below 0":            step(4, code.Ins{Op: code.SetSlot, A: math.MinInt}),
		"a global that is not there":    step(6, code.Ins{Op: code.Global, A: 2}),
		"a global below 0":              step(6, code.Ins{Op: code.Global, A: -1}),
		"a temp of a unit below 0":      step(7, code.Ins{Op: code.Temp, A: -1}),
		"a temp below 0":                step(7, code.Ins{Op: code.Temp, B: -1}),
		"a set temp of a unit below 0":  step(1, code.Ins{Op: code.SetTemp, A: -1}),
		"a set temp below 0":            step(1, code.Ins{Op: code.SetTemp, B: -1}),
		"a constant above 2":            step(10, code.Ins{Op: code.Const, A: 3}),
		"a constant below 0":            step(10, code.Ins{Op: code.Const, A: -1}),
		"a selector that is not there":  step(14, code.Ins{Op: code.Send, A: 3}),
		"a selector below 0":            step(14, code.Ins{Op: code.Send, A: -1}),
		"super's that is not there":     step(11, code.Ins{Op: code.Super, A: 3, B: 1}),
		"super's below 0":               step(11, code.Ins{Op: code.Super, A: -1, B: 1}),
		"arguments of another selector": step(8, code.Ins{Op: code.Send, A: 2, B: 2}),
		"arguments of a name":           step(11, code.Ins{Op: code.Super, A: 0, B: 1}),
		"super's with too few":          step(11, code.Ins{Op: code.Super, A: 1, B: 1}),
		"as many as no number":          step(8, code.Ins{Op: code.Send, A: 1, B: math.MaxInt}),
		"a block that is not there":     step(13, code.Ins{Op: code.Block, A: 2}),
		"a block below 0":               step(13, code.Ins{Op: code.Block, A: -1}),
		"Self's A below 0":              step(16, code.Ins{Op: code.Self, A: -1}),
		"Dup's A below 0":               step(5, code.Ins{Op: code.Dup, A: -1}),
		"Pop's B below 0":               step(2, code.Ins{Op: code.Pop, B: -1}),
		"the end's A below 0":           step(17, code.Ins{Op: code.Return, A: -1}),
		"too few literals":              func(c *code.Code) { c.Lits = c.Lits[:1] },
		"no literals":                   func(c *code.Code) { c.Lits = nil },
		"too few globals":               func(c *code.Code) { c.Names = c.Names[:1] },
		"too few selectors":             func(c *code.Code) { c.Sels = c.Sels[:2] },
		"other selectors":               func(c *code.Code) { c.Sels = []string{"foo", "at:put", "+"} },
		"too few units":                 func(c *code.Code) { c.Units = c.Units[:1] },
	} {
		c := every()
		change(&c)
		if err := code.Check(c, 2); err != api.ErrForm {
			t.Error(name, err)
		}
	}
	for _, slots := range []int{1, 0, -1, math.MinInt} {
		if code.Check(every(), slots) != api.ErrForm {
			t.Error("slots", slots)
		}
	}
	if code.Check(code.Code{}, 0) != api.ErrForm || code.Check(code.Code{Units: []code.Unit{{}}}, 9) != api.ErrForm {
		t.Error("nothing")
	}
}
