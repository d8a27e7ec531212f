package server

import (
	"lapidary/api"
	"lapidary/session"
	"lapidary/sweep"
)

// step does a step of a server that is not closed.
func (s *Server) step(e api.Event) api.Reply {
	do := s.deed(e.Kind)
	if do == nil {
		return api.Reply{Err: api.ErrArg}
	}
	if s.Down() && e.Kind != api.EvCrash {
		return api.Reply{Err: api.ErrDead}
	}
	return do(e)
}

// deed is what the server does at a kind of steps; nil, if there is no such kind.
func (s *Server) deed(kind int) func(api.Event) api.Reply {
	switch kind {
	case api.EvLogin:
		return s.login
	case api.EvAsk, api.EvRun, api.EvCommit, api.EvAbort:
		return s.pass
	case api.EvLogout:
		return s.logout
	case api.EvCrash:
		return s.crash
	case api.EvFail:
		return s.fail
	case api.EvCheckpoint:
		return s.checkpoint
	case api.EvSweep:
		return s.sweep
	}
	return nil
}

func (s *Server) login(api.Event) api.Reply {
	one, err := s.world.Session()
	if err != api.OK {
		return api.Reply{Err: err}
	}
	b := s.free()
	s.sessions[b] = one
	return api.Reply{N: int64(b.number)}
}

// free is the badge with the least number that is no session's.
func (s *Server) free() badge {
	var b badge
	for s.sessions[b] != nil {
		b.number++
	}
	return b
}

// pass lets a session do what is asked of it.
func (s *Server) pass(e api.Event) api.Reply {
	one := s.sessions[badge{e.Who}]
	if one == nil {
		return api.Reply{Err: api.ErrNone}
	}
	return asked(one, e)()
}

// asked is what a session is to do.
func asked(one *session.Session, e api.Event) func() api.Reply {
	switch e.Kind {
	case api.EvAsk:
		return func() api.Reply { return one.Ask(e.Text) }
	case api.EvRun:
		return func() api.Reply { return one.Run(e.N) }
	case api.EvCommit:
		return one.Commit
	case api.EvAbort:
		return one.Abort
	}
	return one.Close
}

// logout lets a session end; its number is free then.
func (s *Server) logout(e api.Event) api.Reply {
	r := s.pass(e)
	delete(s.sessions, badge{e.Who})
	return r
}

// crash takes the device's power away and brings it back, perhaps for a few writes only.
func (s *Server) crash(e api.Event) api.Reply {
	s.fall()
	s.device.Crash(e.Keep)
	if e.N > 0 {
		s.device.Fail(e.N)
	}
	if err := s.rise(); err != api.OK {
		return api.Reply{Err: err}
	}
	return api.Reply{N: s.Store().Last()}
}

func (s *Server) fail(e api.Event) api.Reply {
	s.device.Fail(e.N)
	return api.Reply{}
}

func (s *Server) checkpoint(api.Event) api.Reply {
	return api.Reply{Err: s.Store().Checkpoint()}
}

// sweep lets go of what nobody reaches. A session may see what is lost for all others.
func (s *Server) sweep(api.Event) api.Reply {
	if len(s.sessions) > 0 {
		return api.Reply{Err: api.ErrOpen}
	}
	n, err := sweep.Sweep(s.Store())
	return api.Reply{Err: err, N: int64(n)}
}
