package tree

import "lapidary/lex"

func (r *reader) primary() (Node, bool) {
	switch r.word().Kind {
	case lex.Name:
		return r.leaf(Var), true
	case lex.Open:
		return r.inBrackets()
	case lex.Begin:
		return r.block()
	}
	return r.literal()
}

// leaf makes a part without parts of a word.
func (r *reader) leaf(kind int) Node {
	t := r.next()
	return Node{Kind: kind, Text: t.Text, At: t.At}
}

// literal takes what is the same within a List and outside of one.
func (r *reader) literal() (Node, bool) {
	switch r.word().Kind {
	case lex.Number:
		return r.leaf(Num), true
	case lex.Text:
		return r.leaf(Str), true
	case lex.Symbol:
		return r.leaf(Sym), true
	case lex.List:
		return r.list()
	}
	return Node{}, false
}

func (r *reader) inBrackets() (Node, bool) {
	if !r.enter() {
		return Node{}, false
	}
	n, ok := r.expression()
	return n, ok && r.leave(lex.Close)
}

func (r *reader) block() (Node, bool) {
	n := Node{Kind: Block, At: r.word().At}
	if !r.enter() || !r.arguments(&n) || !r.body(&n) {
		return Node{}, false
	}
	return n, r.leave(lex.Finish)
}

// arguments takes a Block's arguments and the Bar behind them, which need not stand there if the Block ends at once.
func (r *reader) arguments(n *Node) bool {
	for r.skip(lex.Colon) {
		if !r.argument(n) {
			return false
		}
	}
	return n.N == 0 || r.is(lex.Finish) || r.skip(lex.Bar)
}

// list takes a List, whether it begins with #( or, within another one, with an Open.
func (r *reader) list() (Node, bool) {
	n := Node{Kind: List, At: r.word().At}
	if !r.enter() {
		return Node{}, false
	}
	for !r.is(lex.Close) {
		part, ok := r.element()
		if !ok {
			return Node{}, false
		}
		n.Kids = append(n.Kids, part)
	}
	return n, r.leave(lex.Close)
}

func (r *reader) element() (Node, bool) {
	switch t := r.word(); t.Kind {
	case lex.Name:
		if t.Text == "true" || t.Text == "false" || t.Text == "nil" {
			return r.leaf(Word), true
		}
		return r.leaf(Sym), true
	case lex.Key, lex.Binary:
		return r.leaf(Sym), true
	case lex.Open:
		return r.list()
	}
	return r.literal()
}
