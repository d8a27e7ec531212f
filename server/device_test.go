package server

import (
	"bytes"
	"testing"

	"lapidary/api"
)

func fresh(t *testing.T) *Server {
	t.Helper()
	s, err := New(100)
	if err != api.OK {
		t.Fatal("New", err)
	}
	s.Do(api.Event{Kind: api.EvLogin})
	return s
}

func contents(t *testing.T, s *Server) []byte {
	t.Helper()
	b, err := s.device.Read(0, s.device.Size())
	if err != api.OK {
		t.Fatal("Read", err)
	}
	return b
}

// P22.1: which of the writes that are not safe stay is passed on to the device.
func TestKeep(t *testing.T) {
	for _, keep := range [][]bool{nil, {true}, {true, true}, {false, true}, {true, true, true, true}} {
		s := fresh(t)
		s.Do(api.Event{Kind: api.EvAsk, Text: "Root at: #x put: (String new: 250)"})
		s.Do(api.Event{Kind: api.EvRun, N: 9})
		s.Do(api.Event{Kind: api.EvFail, N: 3})
		if r := s.Do(api.Event{Kind: api.EvCommit}); r.Err != api.ErrDead || s.device.Pending() != 2 {
			t.Fatal("Commit", r, s.device.Pending())
		}
		other := &Server{device: s.device.Copy()}
		other.device.Crash(keep)
		other.rise()
		if r := s.Do(api.Event{Kind: api.EvCrash, Keep: keep}); r != (api.Reply{N: 1}) {
			t.Error("EvCrash", r)
		}
		if !bytes.Equal(contents(t, s), contents(t, other)) {
			t.Error("the device has other bytes behind a crash that keeps", keep)
		}
	}
}

// P22.1: a crash that can not open the store, for whatever it is, lets the server be down; so does each one behind it.
func TestCrashOfWhatIsNoStore(t *testing.T) {
	s := fresh(t)
	s.device.Write(0, make([]byte, 2*api.Sector))
	s.device.Flush()
	for range 2 {
		if r := s.Do(api.Event{Kind: api.EvCrash}); r != (api.Reply{Err: api.ErrForm}) {
			t.Error("EvCrash", r)
		}
		if !s.Down() || s.Store() != nil || len(s.Open()) != 0 {
			t.Error("it is not down", s.Open())
		}
		if r := s.Do(api.Event{Kind: api.EvLogin}); r != (api.Reply{Err: api.ErrDead}) {
			t.Error("EvLogin", r)
		}
	}
}
