package tree

import "lapidary/lex"

func (r *reader) cascade() (Node, bool) {
	n, ok := r.primary()
	if !ok {
		return Node{}, false
	}
	first := r.at
	if n, ok = r.keyedOf(n); !ok {
		return Node{}, false
	}
	if !r.is(lex.Semi) {
		return n, true
	}
	if r.at == first { // no message outside of brackets, so there is none that others can follow
		return Node{}, false
	}
	return r.others(n)
}

// others makes a Casc of the Send ahead of a Semi and the messages behind it.
func (r *reader) others(sent Node) (Node, bool) {
	var args []Node
	args = append(args, sent.Kids[1:]...)
	n := Node{Kind: Casc, At: sent.At, Kids: []Node{sent.Kids[0], {Kind: Msg, Text: sent.Text, At: sent.At, Kids: args}}}
	for r.skip(lex.Semi) {
		m, ok := r.message()
		if !ok {
			return Node{}, false
		}
		n.Kids = append(n.Kids, m)
	}
	return n, true
}

func (r *reader) message() (Node, bool) {
	switch r.word().Kind {
	case lex.Name:
		return r.named(), true
	case lex.Binary:
		return r.signed()
	case lex.Key:
		return r.keyed()
	}
	return Node{}, false
}

func (r *reader) named() Node {
	name := r.next()
	return Node{Kind: Msg, Text: name.Text, At: name.At}
}

func (r *reader) signed() (Node, bool) {
	sign := r.next()
	arg, ok := r.unary()
	return Node{Kind: Msg, Text: sign.Text, At: sign.At, Kids: []Node{arg}}, ok
}

func (r *reader) keyed() (Node, bool) {
	m := Node{Kind: Msg, At: r.word().At}
	for r.is(lex.Key) {
		m.Text += r.next().Text
		arg, ok := r.binary()
		if !ok {
			return Node{}, false
		}
		m.Kids = append(m.Kids, arg)
	}
	return m, true
}

// send makes a Send of a message to a receiver.
func send(receiver, m Node) Node {
	return Node{Kind: Send, Text: m.Text, At: m.At, Kids: append([]Node{receiver}, m.Kids...)}
}

// keyedOf, binaryOf and unaryOf take the messages to a receiver that has been read.
func (r *reader) keyedOf(n Node) (Node, bool) {
	n, ok := r.binaryOf(r.unaryOf(n))
	if !ok || !r.is(lex.Key) {
		return n, ok
	}
	m, ok := r.keyed()
	return send(n, m), ok
}

func (r *reader) binaryOf(n Node) (Node, bool) {
	for r.is(lex.Binary) {
		m, ok := r.signed()
		if !ok {
			return Node{}, false
		}
		n = send(n, m)
	}
	return n, true
}

func (r *reader) unaryOf(n Node) Node {
	for r.is(lex.Name) {
		n = send(n, r.named())
	}
	return n
}

func (r *reader) binary() (Node, bool) {
	n, ok := r.unary()
	if !ok {
		return Node{}, false
	}
	return r.binaryOf(n)
}

func (r *reader) unary() (Node, bool) {
	n, ok := r.primary()
	if !ok {
		return Node{}, false
	}
	return r.unaryOf(n), true
}
