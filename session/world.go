package session

import (
	"slices"

	"lapidary/api"
	"lapidary/store"
	"lapidary/valid"
)

// World is what all sessions share: a store, and what was committed while they were at work.
type World struct {
	store   *store.Store
	history *valid.History
	open    []*Session
}

// Make is the world of a store.
func Make(s *store.Store) *World {
	if s == nil {
		return nil
	}
	return &World{store: s, history: valid.New()}
}

// Store is its store.
func (w *World) Store() *store.Store {
	if w == nil {
		return nil
	}
	return w.store
}

// Session is one more who works with the objects, as all is behind the last commit.
func (w *World) Session() (*Session, api.Errno) {
	if w == nil {
		return nil, api.ErrNil
	}
	if len(w.open) >= api.MaxSessions {
		return nil, api.ErrFull
	}
	s := &Session{world: w}
	s.renew()
	if s.view == nil { // a store that Open did not make has no objects to see
		return nil, api.ErrNil
	}
	w.open = append(w.open, s)
	return s, api.OK
}

// Open tells how many sessions are open.
func (w *World) Open() int {
	if w == nil {
		return 0
	}
	return len(w.open)
}

// leave lets a session be open no more.
func (w *World) leave(s *Session) {
	w.open = slices.DeleteFunc(w.open, func(other *Session) bool { return other == s })
	w.forget()
}

// forget lets the history go, as far as all who are open began behind it.
func (w *World) forget() {
	base := w.store.Last()
	for _, s := range w.open {
		base = min(base, s.base)
	}
	w.history.Forget(base)
}
