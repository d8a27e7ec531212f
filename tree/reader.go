package tree

import (
	"lapidary/api"
	"lapidary/lex"
)

// reader goes through a source's words. Its methods answer false where the word that it stands at can not be, and leave it there; why is the reason.
type reader struct {
	words []lex.Tok
	at    int
	depth int
	why   api.Errno
}

func (r *reader) word() lex.Tok { return r.words[r.at] }

func (r *reader) is(kind int) bool { return r.word().Kind == kind }

// next goes on behind the word that it answers; nobody asks it to go behind End.
func (r *reader) next() lex.Tok {
	t := r.word()
	r.at++
	return t
}

func (r *reader) skip(kind int) bool {
	if !r.is(kind) {
		return false
	}
	r.at++
	return true
}

// enter goes on behind a word within which it is one deeper.
func (r *reader) enter() bool {
	if r.depth == api.MaxNest {
		r.why = api.ErrSize
		return false
	}
	r.depth++
	r.at++
	return true
}

// leave goes on behind the word that ends what enter began.
func (r *reader) leave(kind int) bool {
	r.depth--
	return r.skip(kind)
}

// name takes a name as one more of a unit's.
func (r *reader) name(n *Node) bool {
	if !r.is(lex.Name) {
		return false
	}
	n.Names = append(n.Names, r.next().Text)
	return true
}

// argument takes a name as one more of a unit's arguments, which stand ahead of its temps.
func (r *reader) argument(n *Node) bool {
	if !r.name(n) {
		return false
	}
	n.N++
	return true
}

func (r *reader) pattern(n *Node) bool {
	switch r.word().Kind {
	case lex.Name:
		n.Text = r.next().Text
		return true
	case lex.Binary:
		n.Text = r.next().Text
		return r.argument(n)
	case lex.Key:
		for r.is(lex.Key) {
			n.Text += r.next().Text
			if !r.argument(n) {
				return false
			}
		}
		return true
	}
	return false
}

// body takes a unit's temps and its statements.
func (r *reader) body(n *Node) bool {
	if r.skip(lex.Bar) {
		for r.name(n) {
		}
		if !r.skip(lex.Bar) {
			return false
		}
	}
	return r.statements(n)
}

func (r *reader) statements(n *Node) bool {
	for !r.is(lex.End) && !r.is(lex.Finish) {
		part, ok := r.statement()
		if !ok {
			return false
		}
		n.Kids = append(n.Kids, part)
		if !r.skip(lex.Dot) || part.Kind == Return {
			return true
		}
	}
	return true
}

func (r *reader) statement() (Node, bool) {
	if !r.is(lex.Caret) {
		return r.expression()
	}
	caret := r.next()
	part, ok := r.expression()
	return Node{Kind: Return, At: caret.At, Kids: []Node{part}}, ok
}

func (r *reader) expression() (Node, bool) {
	if r.is(lex.Name) && r.words[r.at+1].Kind == lex.Assign {
		return r.set()
	}
	return r.cascade()
}

func (r *reader) set() (Node, bool) {
	name := r.next()
	if !r.enter() {
		return Node{}, false
	}
	part, ok := r.expression()
	r.depth--
	return Node{Kind: Set, Text: name.Text, At: name.At, Kids: []Node{part}}, ok
}
