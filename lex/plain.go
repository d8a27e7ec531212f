package lex

import (
	"lapidary/api"
	"strings"
)

const (
	blanks = " \t\n\r"
	signs  = `+-*/\<>=~,@%&?`
	marks  = "()[]|^.;" // in the order of their kinds, from Open on
)

// Quote: a text as one in quotes.
func Quote(s string) string {
	return "'" + strings.ReplaceAll(s, "'", "''") + "'"
}

// PlainName: is a text a name?
func PlainName(s string) bool {
	return s != "" && nameEnd(s, 0) == len(s)
}

// PlainSymbol: is a text a symbol that needs no quotes?
func PlainSymbol(s string) bool {
	return s != "" && len(s) <= api.MaxBytes && plainEnd(s, 0) == len(s)
}

// plainEnd answers where the symbol without quotes ends that begins at a place: that place, if there is none.
func plainEnd(s string, at int) int {
	end := nameEnd(s, at)
	if end == at {
		return signsEnd(s, at)
	}
	for loneColon(s, end) {
		end = nameEnd(s, end+1)
	}
	return end
}

// nameEnd answers where the name ends that begins at a place: that place, if there is none.
func nameEnd(s string, at int) int {
	if at == len(s) || !letter(s[at]) {
		return at
	}
	for at < len(s) && (letter(s[at]) || digit(s[at]) || s[at] == '_') {
		at++
	}
	return at
}

// signsEnd answers where one or two signs end that begin at a place: that place, if there is none.
func signsEnd(s string, at int) int {
	end := at
	for end < len(s) && end < at+2 && has(signs, s[end]) {
		end++
	}
	return end
}

// loneColon tells whether a colon that is not half of an Assign stands at a place.
func loneColon(s string, at int) bool {
	return at < len(s) && s[at] == ':' && (at+1 == len(s) || s[at+1] != '=')
}

func letter(c byte) bool {
	return 'a' <= c && c <= 'z' || 'A' <= c && c <= 'Z'
}

func digit(c byte) bool {
	return '0' <= c && c <= '9'
}

// has tells whether a byte is one of a text of ASCII.
func has(set string, b byte) bool {
	for _, c := range set {
		if c == rune(b) {
			return true
		}
	}
	return false
}
