package server_test

import (
	"fmt"
	"math/rand"
	"testing"

	"lapidary/api"
	"lapidary/server"
)

// someSource is a source that reads, writes, makes, defines, counts, fails or goes on for long.
func someSource(r *rand.Rand) string {
	k := []string{"#a", "#b", "'c'", "4", "#P"}[r.Intn(5)]
	n := r.Intn(6)
	forms := []string{
		"Root at: %[1]s put: %[2]d", "Root at: %[1]s put: #(%[2]d #x 'y')", "Root at: %[1]s put: 'text'",
		"Root at: %[1]s put: RcCounter new", "Root at: %[1]s put: RcBag new. nil", "Root at: %[1]s put: Dictionary new",
		"Root at: %[1]s put: 2%[2]d factorial", "Root at: %[1]s put: (%[2]d im: 3)", "Root at: %[1]s put: (Array new: %[2]d)",
		"Root at: %[1]s", "Root", "Root size", "Root includesKey: %[1]s", "Root removeKey: %[1]s", "Root at: %[1]s ifAbsent: [%[2]d]",
		"(Root at: %[1]s) at: %[2]d", "(Root at: %[1]s) at: %[2]d put: (Root at: #a)", "(Root at: %[1]s) at: %[2]d put: 65. nil",
		"(Root at: %[1]s) size", "(Root at: %[1]s) class", "(Root at: %[1]s) = (Root at: #a)", "(Root at: %[1]s) == (Root at: #a)",
		"(Root at: %[1]s) + %[2]d", "(Root at: %[1]s) , 'more'", "(Root at: %[1]s) collect: [:e | e = %[2]d]",
		"(Root at: %[1]s) increment: %[2]d. nil", "(Root at: %[1]s) decrement: %[2]d. nil", "(Root at: %[1]s) increment: %[2]d",
		"(Root at: %[1]s) value", "(Root at: %[1]s) add: %[2]d. nil", "(Root at: %[1]s) remove: %[2]d. nil", "(Root at: %[1]s) count: %[2]d",
		"1 to: %[2]d do: [:i | (Root at: %[1]s) increment: i. (Root at: #b) add: i]. nil",
		"(Root at: %[1]s) add: %[2]d; add: nil; remove: %[2]d. nil",
		"Object subclass: #P slots: 'x'. P compile: 'x ^x'. P compile: 'x: n x := n'", "P compile: 'twice ^x + %[2]d'", "P compile: 'x ^x'",
		"Root at: %[1]s put: P new", "(Root at: %[1]s) x: %[2]d; x", "(Root at: %[1]s) twice", "(Root at: %[1]s) x: self; yourself",
		"Root at: %[1]s put: (Root at: #b)", "Root keys", "1 / 0", "nil error: 'own'", "[Root at: %[1]s put: 8. 1 / 0] onError: [:e | e]",
		"[Root at: %[1]s put: %[2]d. 1 / 0] ensure: [Root at: #a put: 0]", "[:x | x]", "%[2]d factorial", "[true] whileTrue: [Root at: %[1]s]",
		"Array compile: 'second ^self at: 2'", "(Root at: %[1]s) second", "%[1]s at: 1 put: %[2]d", "a ]", "Root at: ", "", "(",
	}
	form := forms[r.Intn(len(forms))]
	return fmt.Sprintf(form+"%[3]s", k, n, "")
}

// someEvent is a step as it may come; some of them of sessions that there are not.
func someEvent(r *rand.Rand) api.Event {
	who := r.Intn(3)
	if r.Intn(40) == 0 {
		who = r.Intn(9) - 2
	}
	switch k := r.Intn(100); {
	case k < 12:
		return step(api.EvLogin)
	case k < 45:
		return asking(who, someSource(r))
	case k < 60:
		return running(who, []int{enough, enough, enough, enough, 3, 0, 40, -1}[r.Intn(8)])
	case k < 86:
		return by(who, api.EvCommit)
	case k < 92:
		return by(who, api.EvAbort)
	case k < 95:
		return by(who, api.EvLogout)
	case k < 97:
		return step(api.EvCheckpoint)
	case k < 99:
		return step(api.EvSweep)
	}
	return api.Event{Kind: r.Intn(20) - 5, Who: who, N: r.Intn(3)}
}

// script is so many steps; what is asked is mostly run to its end right behind.
func script(r *rand.Rand, n int) []api.Event {
	var out []api.Event
	for len(out) < n {
		e := someEvent(r)
		out = append(out, e)
		if e.Kind == api.EvAsk && r.Intn(4) > 0 {
			out = append(out, running(e.Who, enough))
		}
	}
	return out
}

// said is a step and its reply.
type said struct {
	e api.Event
	r api.Reply
}

// deed is what changes the objects: a transaction, with all that was asked of it, or a sweep.
type deed struct {
	asked []said
	last  said
}

// alone is a server on which deeds are done one behind the other, each by itself.
type alone struct {
	*server.Server
}

func newAlone(t testing.TB) *alone {
	t.Helper()
	return &alone{fresh(t, api.MaxSectors)}
}

// does does a deed again, and asks that each reply is as it was.
func (a *alone) does(t testing.TB, d deed) {
	t.Helper()
	if a.Store().Room() < 300 {
		goes(t, a.Server, step(api.EvCheckpoint))
	}
	if d.last.e.Kind == api.EvSweep {
		replies(t, a.Server, d.last.e, d.last.r)
		return
	}
	logsIn(t, a.Server, 0)
	for _, x := range append(d.asked, d.last) {
		x.e.Who = 0
		replies(t, a.Server, x.e, x.r)
	}
	goes(t, a.Server, by(0, api.EvLogout))
}

// watch follows a server: what was asked of its sessions since their views were made.
type watch struct {
	asked map[int][]said
}

// follow takes a step and its reply, and answers the deed that was done by it, if one was.
func (w *watch) follow(e api.Event, r api.Reply) *deed {
	if r.Err == api.ErrDead || e.Kind == api.EvCrash {
		w.asked = map[int][]said{} // all sessions are gone
		return nil
	}
	asked := e.Kind == api.EvAsk || e.Kind == api.EvRun
	if asked && r.Err != api.ErrState && r.Err != api.ErrNone {
		w.asked[e.Who] = append(w.asked[e.Who], said{e, r})
	}
	if asked || r.Err != api.OK {
		return nil
	}
	switch e.Kind {
	case api.EvAbort, api.EvLogout:
		delete(w.asked, e.Who)
	case api.EvCommit:
		d := &deed{w.asked[e.Who], said{e, r}}
		delete(w.asked, e.Who)
		return d
	case api.EvSweep:
		return &deed{last: said{e, r}}
	}
	return nil
}
