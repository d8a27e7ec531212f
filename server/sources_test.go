package server_test

import (
	"strings"
	"testing"

	"lapidary/api"
	"lapidary/server"
)

// ended is a source, and what its last run replies.
type ended struct {
	source string
	reply  api.Reply
}

func meant() []ended {
	text := func(source, text string) ended { return ended{source, api.Reply{Text: text, N: 1}} }
	fault := func(source, text string) ended { return ended{source, api.Reply{Err: api.ErrArg, Text: text, N: 1}} }
	return []ended{
		text("", "nil"), text("3", "3"), text("3 + 4", "7"), text("| a | a := 3. a := a + 1. a", "4"),
		text("25 factorial asString", "'15511210043330985984000000'"), text("1 + 2; + 9", "10"),
		text("((1 im: 2) * (3 im: 4)) re", "-5"), text("[:x :y | x + y] value: 1 value: 2", "3"),
		text("| n | n := 0. 1 to: 20 do: [:i | n := n + i]. n", "210"), text("[1 / 0] onError: [:e | e]", "'by nought'"),
		text("[1 / 0. 2] onError: [:e | [nil foo] onError: [:f | f]]", "'does not understand foo'"),
		text("| n | n := 0. [n < 9] whileTrue: [n := n + 1]. n", "9"), text("Root at: #x put: #(1 #a 'b')", "1:Array(1 #a 'b')"),
		fault("1 / 0", "by nought"), fault("nil foo", "does not understand foo"), fault("nil error: 'own'", "own"),
		fault("[1 / 0] ensure: [3]", "by nought"), fault("[:x | x] value", "wrong number of arguments"), fault("30 factorial", "too deep"),
	}
}

// P4: a source ends just as it means, in however many parts it is run.
func TestSourcesInParts(t *testing.T) {
	s := fresh(t, 400)
	logsIn(t, s, 0)
	for _, x := range meant() {
		for _, n := range []int{enough, 1, 2, 3, 7, 50} {
			goes(t, s, asking(0, x.source))
			if r := inParts(s, n); r != x.reply {
				t.Errorf("%q, %d steps at a time: %+v, want %+v", x.source, n, r, x.reply)
			}
			replies(t, s, running(0, n), api.Reply{Err: api.ErrState})
			goes(t, s, by(0, api.EvAbort))
		}
	}
}

// inParts runs n steps at a time till a source is over.
func inParts(s *server.Server, n int) (r api.Reply) {
	for times := 0; r == (api.Reply{}) && times < enough; times++ {
		r = s.Do(running(0, n))
	}
	return r
}

// P4: what is no source is told so, with its place, and nothing is changed.
func TestNoSources(t *testing.T) {
	s := fresh(t, 400)
	logsIn(t, s, 0)
	does(t, s, 0, "Root at: #x put: 1")
	for _, x := range []struct {
		source string
		err    api.Errno
		at     int
	}{
		{"a ]", api.ErrSyntax, 2}, {"(", api.ErrSyntax, 1}, {"3 +", api.ErrSyntax, 3}, {"'open", api.ErrSyntax, 0}, {"\xff", api.ErrSyntax, 0},
		{"3 foo: ", api.ErrSyntax, 7}, {"b", api.ErrName, 0}, {"3 + b", api.ErrName, 4}, {"Root at: #y put: 2. b", api.ErrName, 20},
		{strings.Repeat(" ", api.MaxText+1), api.ErrSize, 0},
	} {
		unchanged(t, s, func() {
			replies(t, s, asking(0, x.source), api.Reply{Err: x.err, At: x.at})
			replies(t, s, running(0, enough), api.Reply{Err: api.ErrState})
		})
	}
	says(t, s, 0, "Root", "1:Dictionary(#x 1)")
	commits(t, s, 0, 2)
}
