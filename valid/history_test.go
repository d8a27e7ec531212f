package valid_test

import (
	"math"
	"testing"

	"lapidary/api"
	"lapidary/valid"
)

func add(t *testing.T, h *valid.History, x valid.Txn, want api.Errno) {
	t.Helper()
	if err := h.Add(x); err != want {
		t.Errorf("Add(%v) = %v, want %v", x, err, want)
	}
}

func length(t *testing.T, h *valid.History, want int) {
	t.Helper()
	if n := h.Len(); n != want {
		t.Errorf("Len() = %d, want %d", n, want)
	}
}

func asks(t *testing.T, h *valid.History, x valid.Txn, oop int64, want api.Errno) {
	t.Helper()
	if n, err := h.Check(x); n != oop || err != want {
		t.Errorf("Check(%v) = %d %v, want %d %v", x, n, err, oop, want)
	}
}

// P17.3: nil.
func TestNil(t *testing.T) {
	var h *valid.History
	add(t, h, by(1, 5), api.ErrNil)
	asks(t, h, since(0, oops(5), nil), 0, api.ErrNil)
	h.Forget(1)
	length(t, h, 0)
}

// P17.3: a history of nothing, and one that New did not make: nothing was added, nothing was forgotten.
func TestNew(t *testing.T) {
	for _, anew := range []func() *valid.History{valid.New, func() *valid.History { return &valid.History{} }} {
		length(t, anew(), 0)
		for _, n := range oops(0, 1, -1, api.MaxCommit, math.MaxInt64, math.MinInt64) {
			h := anew()
			asks(t, h, since(n, oops(1), oops(2)), 0, api.OK)
			add(t, h, by(n, 1), api.OK)
			add(t, h, by(n, 1), api.ErrState)
			length(t, h, 1)
		}
	}
	if valid.New() == valid.New() {
		t.Error("two histories are one")
	}
}

// P17.3: what is added is above all that was, also of what is forgotten; what is refused changes nothing.
func TestAdd(t *testing.T) {
	h := valid.New()
	add(t, h, by(3, 5, 7), api.OK)
	for _, commit := range oops(3, 2, 0, -1, math.MinInt64) {
		add(t, h, by(commit, 9), api.ErrState)
	}
	length(t, h, 1)
	asks(t, h, since(math.MinInt64, oops(9), nil), 0, api.OK)
	add(t, h, by(8), api.OK) // a commit that wrote nothing is kept, too
	length(t, h, 2)
	h.Forget(8)
	length(t, h, 0)
	add(t, h, by(8, 5), api.ErrState)
	add(t, h, by(7, 5), api.ErrState)
	add(t, h, by(9, 5), api.OK)
	add(t, h, by(math.MaxInt64, 6), api.OK)
	add(t, h, by(math.MaxInt64, 6), api.ErrState)
	length(t, h, 2)
	asks(t, h, since(9, oops(5, 6), nil), 6, api.ErrClash)
}

// P17.3: it is asked as Check is, of Commits and Writes alone.
func TestHistoryCheck(t *testing.T) {
	h := valid.New()
	add(t, h, valid.Txn{Base: 9, Commit: 3, Reads: oops(1), Writes: oops(7, 5, 7)}, api.OK)
	add(t, h, by(4, 6), api.OK)
	add(t, h, by(6, 5), api.OK)
	asks(t, h, since(2, oops(7, 6), nil), 6, api.ErrClash)
	asks(t, h, since(2, oops(7), oops(5)), 5, api.ErrClash)
	asks(t, h, since(3, oops(7), nil), 0, api.OK)
	asks(t, h, since(3, oops(7), oops(6)), 6, api.ErrClash)
	asks(t, h, since(4, oops(7, 6), nil), 0, api.OK)
	asks(t, h, since(5, oops(7, 6), oops(5)), 5, api.ErrClash)
	asks(t, h, since(6, oops(5, 6, 7), oops(5, 6, 7)), 0, api.OK)
	asks(t, h, since(2, oops(1), nil), 0, api.OK)
	asks(t, h, since(-1, oops(7), nil), 7, api.ErrClash)
	asks(t, h, txn(6, 0, oops(5), nil), 0, api.OK)
	length(t, h, 3)
}

// P17.3: the writes that are handed in are not kept.
func TestAddKeepsNoList(t *testing.T) {
	h := valid.New()
	list := oops(5)
	add(t, h, by(1, list...), api.OK)
	list[0] = 6
	asks(t, h, since(0, oops(5, 6), nil), 5, api.ErrClash)
	asks(t, h, since(0, oops(6), nil), 0, api.OK)
}

// P17.3: what is forgotten is kept no more; who began ahead of it is ErrState, though nothing of it stood in its way.
func TestForget(t *testing.T) {
	h := valid.New()
	for commit := int64(1); commit <= 5; commit++ {
		add(t, h, by(commit, 10+commit, 20), api.OK)
	}
	all := oops(11, 12, 13, 14, 15)
	h.Forget(2)
	length(t, h, 3)
	asks(t, h, since(1, all, nil), 0, api.ErrState)
	asks(t, h, since(1, nil, nil), 0, api.ErrState)
	asks(t, h, since(-1, nil, nil), 0, api.ErrState)
	asks(t, h, since(math.MinInt64, nil, nil), 0, api.ErrState)
	asks(t, h, since(2, all, nil), 13, api.ErrClash)
	asks(t, h, since(2, oops(11, 12), nil), 0, api.OK)
	asks(t, h, since(4, all, nil), 15, api.ErrClash)
	asks(t, h, since(4, nil, oops(20)), 20, api.ErrClash)
	h.Forget(2) // twice
	length(t, h, 3)
	asks(t, h, since(2, all, nil), 13, api.ErrClash)
	for _, base := range oops(1, 0, -1, math.MinInt64) { // below what was forgotten ahead
		h.Forget(base)
		length(t, h, 3)
		asks(t, h, since(1, nil, nil), 0, api.ErrState)
		asks(t, h, since(2, nil, nil), 0, api.OK)
	}
	h.Forget(3)
	length(t, h, 2)
	asks(t, h, since(2, nil, nil), 0, api.ErrState)
	asks(t, h, since(3, all, nil), 14, api.ErrClash)
	h.Forget(100)
	length(t, h, 0)
	asks(t, h, since(99, nil, nil), 0, api.ErrState)
	asks(t, h, since(100, all, all), 0, api.OK)
}

// P17.3: commits between those that there are may be forgotten, none at all, and those at the ends of numbers.
func TestForgetBetween(t *testing.T) {
	h := valid.New()
	h.Forget(-3)
	asks(t, h, since(-4, nil, nil), 0, api.ErrState)
	asks(t, h, since(-3, nil, nil), 0, api.OK)
	add(t, h, by(10, 1), api.OK)
	add(t, h, by(20, 2), api.OK)
	h.Forget(9)
	length(t, h, 2)
	h.Forget(15)
	length(t, h, 1)
	asks(t, h, since(14, nil, nil), 0, api.ErrState)
	asks(t, h, since(15, oops(1, 2), nil), 2, api.ErrClash)
	h.Forget(math.MaxInt64)
	length(t, h, 0)
	asks(t, h, since(math.MaxInt64-1, nil, nil), 0, api.ErrState)
	asks(t, h, since(math.MaxInt64, oops(2), nil), 0, api.OK)
	add(t, h, by(21, 2), api.OK) // above all that were added
	asks(t, h, since(math.MaxInt64, oops(2), nil), 0, api.OK)
}
