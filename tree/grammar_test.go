package tree_test

import (
	"math/rand"
	"strings"
	"testing"

	"lapidary/api"
	"lapidary/lex"
	"lapidary/tree"
)

// grammar is the chapter's grammar, a rule a line; words that are no rule are kinds of words, _ is nothing. A cascade's first part has a message outside of brackets.
const grammar = `
unit = temps? statements End
method = pattern temps? statements End
pattern = Name | Binary Name | keynames
keynames = Key Name | keynames Key Name
temps? = _ | Bar names Bar
names = _ | names Name
statements = _ | list | list Dot | ending | list Dot ending
list = expression | list Dot expression
ending = Caret expression | Caret expression Dot
expression = keyed | Name Assign expression | sent others
others = Semi message | others Semi message
message = Name | Binary unary | keys
keys = Key binary | keys Key binary
keyed = primary | sent
sent = unary Name | binary Binary unary | binary keys
binary = unary | binary Binary unary
unary = primary | unary Name
primary = Name | Number | Text | Symbol | List elements Close | Open expression Close | Begin arguments? temps? statements Finish | Begin arguments Finish
arguments? = _ | arguments Bar
arguments = Colon Name | arguments Colon Name
elements = _ | elements element
element = Number | Text | Symbol | Name | Key | Binary | List elements Close | Open elements Close
`

var wordKinds = []string{"End", "Name", "Key", "Binary", "Number", "Text", "Symbol", "Assign", "Open", "Close", "Begin", "Finish", "Bar", "Caret", "Dot", "Semi", "Colon", "List"}

func rulesOf(text string) map[string][][]string {
	rules := map[string][][]string{}
	for _, line := range strings.Split(strings.TrimSpace(text), "\n") {
		name, right, _ := strings.Cut(line, " = ")
		for _, way := range strings.Split(right, " | ") {
			rules[name] = append(rules[name], strings.Fields(strings.ReplaceAll(way, "_", "")))
		}
	}
	return rules
}

// item is a rule's way that has been gone through up to a dot, begun at a word.
type item struct {
	rule           string
	way, dot, from int
}

type chart struct {
	rules map[string][][]string
	sets  []map[item]bool
}

// close adds to the last set all that can be begun, and all that is over.
func (c *chart) close() {
	at := len(c.sets) - 1
	for grown := true; grown; {
		grown = false
		add := func(i item) {
			if !c.sets[at][i] {
				c.sets[at][i], grown = true, true
			}
		}
		var now []item
		for i := range c.sets[at] {
			now = append(now, i)
		}
		for _, i := range now {
			way := c.rules[i.rule][i.way]
			if i.dot < len(way) {
				for k := range c.rules[way[i.dot]] {
					add(item{way[i.dot], k, 0, at})
				}
				continue
			}
			for j := range c.sets[i.from] {
				if over := c.rules[j.rule][j.way]; j.dot < len(over) && over[j.dot] == i.rule {
					add(item{j.rule, j.way, j.dot + 1, j.from})
				}
			}
		}
	}
}

// firstWrong answers the first of the words with which there is nothing of a rule any more, or -1: no word may come, whatever follows it, that does not leave an item.
func firstWrong(rules map[string][][]string, start string, words []string) int {
	c := &chart{rules: rules, sets: []map[item]bool{{}}}
	for k := range rules[start] {
		c.sets[0][item{start, k, 0, 0}] = true
	}
	for n, word := range words {
		c.close()
		next := map[item]bool{}
		for i := range c.sets[n] {
			if way := rules[i.rule][i.way]; i.dot < len(way) && way[i.dot] == word {
				next[item{i.rule, i.way, i.dot + 1, i.from}] = true
			}
		}
		if len(next) == 0 {
			return n
		}
		c.sets = append(c.sets, next)
	}
	return -1
}

// wordSource is a source of words that mostly fit one behind the other.
func wordSource(r *rand.Rand) string {
	pieces := []string{"a", "b", "a", "b", "true", "k:", "l:", "+", "-", "7", "'t'", "#s", ":=", "(", ")", ")", "[", "]", "]", "|", "^", ".", ";", ":", "#("}
	var b strings.Builder
	for range r.Intn(14) {
		b.WriteString(pieces[r.Intn(len(pieces))] + " ")
	}
	return b.String()
}

// grown is a source that the grammar makes: some steps deep by chance, then by the first way of each rule.
func grown(r *rand.Rand, rules map[string][][]string, rule string, left int) []string {
	ways, ok := rules[rule]
	if !ok {
		return []string{rule}
	}
	way := ways[r.Intn(len(ways))]
	if left <= 0 {
		way = ways[0]
	}
	var out []string
	for _, part := range way {
		out = append(out, grown(r, rules, part, left-1)...)
	}
	return out
}

// spelt writes kinds of words as a source.
func spelt(r *rand.Rand, kinds []string) string {
	forms := map[string][]string{"End": {""}, "Name": {"a", "b", "nil"}, "Key": {"k:", "l:"}, "Binary": {"+", "==", ","}, "Number": {"7", "0"}, "Text": {"''", "'it''s'"}, "Symbol": {"#s", "#'x y'", "#k:l:", "#+"}, "Assign": {":="}, "Open": {"("}, "Close": {")"}, "Begin": {"["}, "Finish": {"]"}, "Bar": {"|"}, "Caret": {"^"}, "Dot": {"."}, "Semi": {";"}, "Colon": {":"}, "List": {"#("}}
	var out []string
	for _, kind := range kinds {
		out = append(out, forms[kind][r.Intn(len(forms[kind]))])
	}
	return strings.Join(out, " ")
}

// someSources are sources of words of any kind, sources that the grammar makes, and such with a word more, less or another.
func someSources(r *rand.Rand, rules map[string][][]string, start string, count int) []string {
	var out []string
	for len(out) < count {
		out = append(out, wordSource(r))
		kinds := grown(r, rules, start, 3+r.Intn(12))
		if len(kinds) > 120 {
			continue
		}
		out = append(out, spelt(r, kinds))
		at, other := r.Intn(len(kinds)), wordKinds[1+r.Intn(len(wordKinds)-1)]
		switch r.Intn(3) {
		case 0:
			kinds[at] = other
		case 1:
			kinds = append(kinds[:at:at], kinds[at+1:]...)
		default:
			kinds = append(kinds[:at:at], append([]string{other}, kinds[at:]...)...)
		}
		out = append(out, spelt(r, kinds))
	}
	return out
}

// P8.1: a source is one just if the grammar has it; else the place is that of the first word with which no source of the grammar begins.
func TestByGrammar(t *testing.T) {
	rules := rulesOf(grammar)
	r := rand.New(rand.NewSource(81))
	for start, read := range map[string]reads{"unit": tree.Parse, "method": tree.Method} {
		good := 0
		for _, s := range someSources(r, rules, start, 2500) {
			list, _, err := lex.Read(s)
			if err != api.OK {
				t.Fatalf("%q: %v", s, err)
			}
			var kinds []string
			for _, w := range list {
				kinds = append(kinds, wordKinds[w.Kind])
			}
			_, at, err := read(s)
			if err == api.ErrSize {
				continue
			}
			wrong := firstWrong(rules, start, kinds)
			if wrong < 0 && (err != api.OK || at != 0) || wrong >= 0 && (err != api.ErrSyntax || at != list[wrong].At) {
				t.Fatalf("%s %q: %d %v, want the word %d", start, s, at, err, wrong)
			}
			if wrong < 0 {
				good++
			}
		}
		if good < 500 {
			t.Error("too few sources that can be", good)
		}
	}
}

// P8.4: Text of a tree is read as the same tree, but for its places, and is then the same text.
func TestAsItWasWritten(t *testing.T) {
	rules := rulesOf(grammar)
	r := rand.New(rand.NewSource(84))
	for start, read := range map[string]reads{"unit": tree.Parse, "method": tree.Method} {
		good := 0
		for _, s := range someSources(r, rules, start, 20000) {
			n, _, err := read(s)
			if err != api.OK {
				continue
			}
			good++
			text := tree.Text(n)
			again, at, err := read(text)
			if err != api.OK || dump(placeless(again)) != dump(placeless(n)) {
				t.Fatalf("%q: its text %q is %s %d %v, not %s", s, text, dump(again), at, err, dump(n))
			}
			if tree.Text(again) != text {
				t.Fatalf("%q: its text %q, and again %q", s, text, tree.Text(again))
			}
		}
		if good < 5000 {
			t.Error("too few sources that can be", good)
		}
	}
}

func placeless(n tree.Node) tree.Node {
	n.At = 0
	kids := n.Kids
	n.Kids = nil
	for _, kid := range kids {
		n.Kids = append(n.Kids, placeless(kid))
	}
	return n
}
