package serial

import (
	"lapidary/api"
	"lapidary/session"
	"lapidary/sweep"
)

// roomy is how many sectors are free at least when something is to be changed; no commit of a server that the model is held against takes so many.
const roomy = 300

// talk is a session: what was asked of it since its view was made.
type talk struct {
	asked []said
}

// said is something that was asked, and its reply.
type said struct {
	kind, n int
	text    string
	reply   api.Reply
}

// by is what a session replies, if it is asked the same.
func (x said) by(one *session.Session) api.Reply {
	if x.kind == api.EvAsk {
		return one.Ask(x.text)
	}
	return one.Run(x.n)
}

// can tells whether a step may have a reply, and takes it as done if so.
func (m *Model) can(e api.Event, r api.Reply) bool {
	switch e.Kind {
	case api.EvLogin:
		return r.Err != api.OK || m.login(r.N)
	case api.EvAsk, api.EvRun, api.EvCommit, api.EvAbort, api.EvLogout:
		if t := m.talk(e.Who); t != nil {
			return m.of(t, e, r)
		}
		return r.Err == api.ErrNone
	case api.EvSweep:
		return r.Err != api.OK || m.sweep(r.N)
	case api.EvCheckpoint, api.EvFail:
		return true
	case api.EvCrash:
		return false
	}
	return r.Err == api.ErrArg
}

// talk is the session of a number; nil, if there is none.
func (m *Model) talk(who int) *talk {
	if who < 0 || who >= len(m.talks) {
		return nil
	}
	return m.talks[who]
}

// login lets a number be a session's.
func (m *Model) login(n int64) bool {
	if n < 0 || n >= api.MaxSessions || m.talks[n] != nil {
		return false
	}
	m.talks[n] = &talk{}
	return true
}

// of is can of a session that is there.
func (m *Model) of(t *talk, e api.Event, r api.Reply) bool {
	if e.Kind == api.EvAsk || e.Kind == api.EvRun {
		if r.Err != api.ErrState {
			t.asked = append(t.asked, said{e.Kind, e.N, e.Text, r})
		}
		return true
	}
	if r.Err != api.OK {
		return true
	}
	switch e.Kind {
	case api.EvCommit:
		if !m.change(r.N, func() (int64, bool) { return m.commit(t) }) {
			return false
		}
	case api.EvLogout:
		m.talks[e.Who] = nil
	}
	t.asked = nil
	return true
}

// sweep tells whether there is nobody who may see what is lost, and just so many go.
func (m *Model) sweep(n int64) bool {
	if len(m.Open()) > 0 {
		return false
	}
	return m.change(n, func() (int64, bool) {
		gone, err := sweep.Sweep(m.world.Store())
		return int64(gone), err == api.OK
	})
}

// change makes room, and does what may change objects; it tells whether that is done, with just this number.
func (m *Model) change(n int64, do func() (int64, bool)) bool {
	m.makeRoom()
	if got, done := do(); !done || got != n {
		return false
	}
	m.learn()
	return true
}

// makeRoom lets nothing be in the way of a change: no log that is long, no oops of objects that were there earlier.
func (m *Model) makeRoom() {
	s := m.world.Store()
	if s.Room() < roomy {
		s.Checkpoint() // if all is too long for that, the change will tell
	}
	s.Forget(s.Last())
}

// commit lets somebody do alone all that was asked; it tells the commit's number, and whether each reply is as it was.
func (m *Model) commit(t *talk) (int64, bool) {
	one, err := m.world.Session()
	if err != api.OK {
		return 0, false
	}
	defer one.Close()
	for _, x := range t.asked {
		if x.by(one) != x.reply {
			return 0, false
		}
	}
	r := one.Commit()
	return r.N, r.Err == api.OK
}
