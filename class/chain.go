package class

import (
	"iter"
	"slices"
	"strings"

	"lapidary/api"
	"lapidary/view"
)

// longest is how many classes are gone through at most; one may be above itself.
const longest = 30

// upward goes through a class and those above it.
func upward(v *view.View, c int64) iter.Seq[entry] {
	return func(yield func(entry) bool) {
		next := c
		for range longest {
			e, is := read(v, next)
			if !is || !yield(e) {
				return
			}
			next = e.above
		}
	}
}

// Chain are a class, and those above it.
func Chain(v *view.View, c int64) []int64 {
	var out []int64
	for e := range upward(v, c) {
		out = append(out, e.oop)
	}
	return out
}

// Names are the slots' names of a class's objects: first those of the classes above it.
func Names(v *view.View, c int64) []string {
	var out []string
	for _, e := range slices.Backward(slices.Collect(upward(v, c))) {
		o, _ := v.Get(e.names) // what is not there has no bytes
		out = append(out, words(string(o.Bytes))...)
	}
	return out
}

func words(s string) []string {
	return strings.FieldsFunc(s, func(r rune) bool { return r == ' ' })
}

// Find is the source of a class's message, and the class that has it.
func Find(v *view.View, c int64, selector string) (string, int64, bool) {
	ask := asking(v, selector)
	// all of the chain is read, even if what is asked for stands at its beginning
	for _, e := range slices.Collect(upward(v, c)) {
		o, _ := v.Get(e.methods)
		if _, source, found := ask(o.Slots); found {
			return source, e.oop, true
		}
	}
	return "", 0, false
}

// asking is a question for methods: at which of their slots the source of a message stands, and what it is.
func asking(v *view.View, selector string) func(methods []api.Val) (int, string, bool) {
	return func(methods []api.Val) (int, string, bool) {
		for i := 0; i < len(methods); i += 2 {
			text, is := Text(v, methods[i], Symbol)
			if !is || text != selector || i+1 == len(methods) {
				continue
			}
			if source, is := Text(v, methods[i+1], String); is {
				return i + 1, source, true
			}
		}
		return 0, "", false
	}
}
