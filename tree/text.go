package tree

import (
	"lapidary/lex"
	"strings"
)

// Text: a tree as a source.
func Text(n Node) string {
	var w writer
	w.node(n)
	return w.String()
}

// writer is a source that is being written.
type writer struct{ strings.Builder }

func (w *writer) put(texts ...string) {
	for _, s := range texts {
		w.WriteString(s)
	}
}

func (w *writer) node(n Node) {
	switch n.Kind {
	case Num, Var, Word:
		w.put(n.Text)
	case Str:
		w.put(lex.Quote(n.Text))
	case Sym:
		w.put("#", symbol(n.Text))
	case List:
		w.put("#(")
		w.parts(n.Kids, " ")
		w.put(")")
	case Set:
		w.put(n.Text, " := ")
		w.parts(n.Kids, "")
	case Return:
		w.put("^")
		w.parts(n.Kids, "")
	case Msg:
		w.message(n.Text, n.Kids)
	case Send, Casc:
		w.sent(n)
	case Block:
		w.block(n)
	case Unit:
		w.unit(n)
	}
}

// symbol is what stands behind a symbol's hash.
func symbol(text string) string {
	if lex.PlainSymbol(text) {
		return text
	}
	return lex.Quote(text)
}

func (w *writer) parts(parts []Node, between string) {
	for i, n := range parts {
		if i > 0 {
			w.put(between)
		}
		w.node(n)
	}
}

func (w *writer) unit(n Node) {
	if n.Text != "" {
		w.pattern(n)
	}
	w.body(n)
}

// pattern writes a method's selector as a message whose arguments are names.
func (w *writer) pattern(n Node) {
	var args []Node
	for _, name := range arguments(n) {
		args = append(args, Node{Kind: Var, Text: name})
	}
	var m writer
	m.message(n.Text, args)
	w.put(strings.TrimPrefix(m.String(), " "), " ")
}

// arguments are the first of a unit's names. (A tree that no source made may say that it has more of them than names.)
func arguments(n Node) []string {
	return n.Names[:max(0, min(n.N, len(n.Names)))]
}

func (w *writer) block(n Node) {
	w.put("[")
	for _, name := range arguments(n) {
		w.put(":", name, " ")
	}
	if n.N > 0 {
		w.put("| ")
	}
	w.body(n)
	w.put("]")
}

// body writes a unit's temps and its statements.
func (w *writer) body(n Node) {
	if temps := n.Names[len(arguments(n)):]; len(temps) > 0 {
		w.put("| ", strings.Join(temps, " "), " | ")
	}
	w.parts(n.Kids, ". ")
}

// sent writes a receiver and what is sent to it: the one message of a Send, or those of a Casc.
func (w *writer) sent(n Node) {
	messages := n.Kids[min(1, len(n.Kids)):]
	if n.Kind == Send {
		messages = []Node{{Kind: Msg, Text: n.Text, Kids: messages}}
	}
	w.operand(n.Kids, 0, Args(part(messages, 0).Text) == 0)
	w.parts(messages, ";")
}

func (w *writer) message(selector string, args []Node) {
	switch {
	case Args(selector) == 0:
		w.put(" ", selector)
	case signed(selector):
		w.put(" ", selector, " ")
		w.operand(args, 0, true)
	default:
		w.keyed(selector, args)
	}
}

func (w *writer) keyed(selector string, args []Node) {
	from, arg := 0, 0
	for i, c := range selector {
		if c == ':' {
			w.put(" ", selector[from:i+1], " ")
			w.operand(args, arg, false)
			from, arg = i+1, arg+1
		}
	}
}

// operand writes a receiver or an argument, in brackets if it would be read as something else without; tight, if a sign's message would.
func (w *writer) operand(parts []Node, i int, tight bool) {
	n := part(parts, i)
	if !inBrackets(n, tight) {
		w.node(n)
		return
	}
	w.put("(")
	w.node(n)
	w.put(")")
}

func inBrackets(n Node, tight bool) bool {
	switch {
	case n.Kind == Set || n.Kind == Casc:
		return true
	case n.Kind != Send || Args(n.Text) == 0:
		return false
	}
	return tight || !signed(n.Text)
}

// part is one of a list, or an empty one if it is not there: in a tree that no source made.
func part(parts []Node, i int) Node {
	if i < len(parts) {
		return parts[i]
	}
	return Node{}
}
