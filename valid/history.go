package valid

import (
	"slices"

	"lapidary/api"
)

// History is what was committed, as far as it is asked.
type History struct {
	wrote  places[int64] // commits that are kept, by the objects that they wrote
	kept   []int64       // commits that are kept, rising, those that wrote nothing too
	added  height
	forgot height
}

// height is the greatest number that came, as long as one did: ahead of that any number is above it, those below 0 too.
type height struct {
	came bool
	n    int64
}

func (h height) below(n int64) bool { return !h.came || h.n < n }
func (h height) above(n int64) bool { return h.came && h.n > n }

// New is a history of nothing.
func New() *History { return &History{} }

// Add keeps a commit, which is above all that were added.
func (h *History) Add(t Txn) api.Errno {
	if h == nil {
		return api.ErrNil
	}
	if !h.added.below(t.Commit) {
		return api.ErrState
	}
	h.added = height{true, t.Commit}
	h.kept = append(h.kept, t.Commit)
	h.wrote.put(t.Commit, t.Writes)
	return api.OK
}

// Check tells whether a transaction may commit behind all that were added; else the least object that stands in the way.
func (h *History) Check(t Txn) (int64, api.Errno) {
	if h == nil {
		return 0, api.ErrNil
	}
	return told(h.ahead(t))
}

func (h *History) ahead(t Txn) way {
	if h.forgot.above(t.Base) {
		return forgotten{}
	}
	return ahead(&h.wrote, t, always)
}

// Forget keeps commits up to base no more: who began ahead of it can not be checked from then on.
func (h *History) Forget(base int64) {
	if h == nil || !h.forgot.below(base) {
		return
	}
	h.forgot = height{true, base}
	h.kept = slices.Clone(behind(h.kept, base))
	h.wrote.cut(base)
}

// Len is how many commits are kept.
func (h *History) Len() int {
	if h == nil {
		return 0
	}
	return len(h.kept)
}
