package valid

import "lapidary/api"

// way is what stands between a transaction and its commit.
type way interface {
	// open tells whether it may commit.
	open() bool
}

// nothing stands in the way.
type nothing struct{}

// taken is an object that somebody else has written since.
type taken struct{ oop int64 }

// forgotten is that nobody knows: it began too early.
type forgotten struct{}

func (nothing) open() bool   { return true }
func (taken) open() bool     { return false }
func (forgotten) open() bool { return false }

// told is what is answered of a way.
func told(w way) (int64, api.Errno) {
	switch w := w.(type) {
	case taken:
		return w.oop, api.ErrClash
	case forgotten:
		return 0, api.ErrState
	}
	return 0, api.OK
}
