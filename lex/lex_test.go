package lex_test

import (
	"math/rand"
	"regexp"
	"slices"
	"strings"
	"testing"

	"lapidary/api"
	"lapidary/lex"
	"lapidary/whole"
)

// words writes words without their places, for tables.
func words(list []lex.Tok) string {
	names := []string{"End", "Name", "Key", "Binary", "Number", "Text", "Symbol", "Assign", "Open", "Close", "Begin", "Finish", "Bar", "Caret", "Dot", "Semi", "Colon", "List"}
	var out []string
	for _, w := range list {
		out = append(out, names[w.Kind]+"<"+w.Text+">")
	}
	return strings.Join(out, " ")
}

// P7.1: every kind of word, by its first byte and as long as it can be.
func TestWords(t *testing.T) {
	for s, want := range map[string]string{
		"":                         "End<>",
		" \t\n\r":                  "End<>",
		"a at: 3 put: #b:c":        "Name<a> Key<at:> Number<3> Key<put:> Symbol<b:c> End<>",
		"'it''s'":                  "Text<it's> End<>",
		"''":                       "Text<> End<>",
		"''''":                     "Text<'> End<>",
		"''''''":                   "Text<''> End<>",
		"'a' 'b'":                  "Text<a> Text<b> End<>",
		"'a''b''c'x":               "Text<a'b'c> Name<x> End<>",
		"'\x00\xff\n\"'":           "Text<\x00\xff\n\"> End<>",
		"aZ_9 b":                   "Name<aZ_9> Name<b> End<>",
		"a__":                      "Name<a__> End<>",
		"a:":                       "Key<a:> End<>",
		"a:b":                      "Key<a:> Name<b> End<>",
		"a::b":                     "Key<a:> Colon<:> Name<b> End<>",
		"a:=b":                     "Name<a> Assign<:=> Name<b> End<>",
		"a::=b":                    "Key<a:> Assign<:=> Name<b> End<>",
		"a: =b":                    "Key<a:> Binary<=> Name<b> End<>",
		"a :b":                     "Name<a> Colon<:> Name<b> End<>",
		"a:==b":                    "Name<a> Assign<:=> Binary<=> Name<b> End<>",
		"a:\"c\"=b":                "Key<a:> Binary<=> Name<b> End<>",
		"a\"c\":b":                 "Name<a> Colon<:> Name<b> End<>",
		":= : ::":                  "Assign<:=> Colon<:> Colon<:> Colon<:> End<>",
		":":                        "Colon<:> End<>",
		"::=":                      "Colon<:> Assign<:=> End<>",
		"0 10 100 1000":            "Number<0> Number<10> Number<100> Number<1000> End<>",
		"12ab":                     "Number<12> Name<ab> End<>",
		"1.5":                      "Number<1> Dot<.> Number<5> End<>",
		"3-4":                      "Number<3> Binary<-> Number<4> End<>",
		"#a #a:b: #+ #== #'a ''b'": "Symbol<a> Symbol<a:b:> Symbol<+> Symbol<==> Symbol<a 'b> End<>",
		"#''":                      "Symbol<> End<>",
		"#a::b":                    "Symbol<a::b> End<>",
		"#a:::":                    "Symbol<a:::> End<>",
		"#a:=":                     "Symbol<a> Assign<:=> End<>",
		"#a::=":                    "Symbol<a:> Assign<:=> End<>",
		"#a:b:=3":                  "Symbol<a:b> Assign<:=> Number<3> End<>",
		"#a:1":                     "Symbol<a:> Number<1> End<>",
		"#a b":                     "Symbol<a> Name<b> End<>",
		"#a(b":                     "Symbol<a> Open<(> Name<b> End<>",
		"#a#b":                     "Symbol<a> Symbol<b> End<>",
		"#+-*":                     "Symbol<+-> Binary<*> End<>",
		"#'a'b":                    "Symbol<a> Name<b> End<>",
		"#(1 #(2))":                "List<#(> Number<1> List<#(> Number<2> Close<)> Close<)> End<>",
		"+++":                      "Binary<++> Binary<+> End<>",
		`+-*/\<>=~,@%&?`:           `Binary<+-> Binary<*/> Binary<\<> Binary<>=> Binary<~,> Binary<@%> Binary<&?> End<>`,
		"+ -":                      "Binary<+> Binary<-> End<>",
		"()[]|^.;":                 "Open<(> Close<)> Begin<[> Finish<]> Bar<|> Caret<^> Dot<.> Semi<;> End<>",
		"||..;;":                   "Bar<|> Bar<|> Dot<.> Dot<.> Semi<;> Semi<;> End<>",
		"a\"it's $ \xff\"b":        "Name<a> Name<b> End<>",
		"\"\"\"\"":                 "End<>",
		"a \"b\" \"c\"\"d\" e":     "Name<a> Name<e> End<>",
	} {
		list, at, err := lex.Read(s)
		if err != api.OK || at != 0 || words(list) != want {
			t.Errorf("Read %q: %s %d %v, want %s", s, words(list), at, err, want)
		}
	}
}

// P7.1: At is a word's first byte, of End the source's end.
func TestPlaces(t *testing.T) {
	list, _, err := lex.Read(" ab \"x\" #( #'c''d' 'e''' f: := 12 \n")
	var at []int
	for _, w := range list {
		at = append(at, w.At)
	}
	if err != api.OK || !slices.Equal(at, []int{1, 8, 11, 19, 25, 28, 31, 35}) {
		t.Error(at, err)
	}
}

// P7.1: the first word or comment that can not be, by its first byte.
func TestWrong(t *testing.T) {
	wrong := map[string]int{
		"3 $": 2, "'a": 0, "a 'b": 2, "'a''": 0, "'": 0, "a \"b": 2, "\"": 0, "\"a\"\"": 3, "#": 0, "a #": 2, "# a": 0,
		"#1": 0, "##a": 0, "#:a": 0, "#)": 0, "#[": 0, "#.": 0, "#\"c\"a": 0, "#'a": 0, "b #'a''": 2, "#_": 0, "#|": 0,
		"1 01": 2, "00": 0, "a 00": 2, "012 $": 0, "a 3 _b": 4, "_": 0, "a {": 2, "!": 0, "`": 0, "\x00": 0, "a\x7f": 1,
		"\x80": 0, "a \xc3\xa9": 2, "\xff": 0, "\v": 0, "\f": 0, "$ 'a": 0, "'a' $ \"": 4, "\xe2\x80\x83a": 0,
	}
	for s, at := range wrong {
		if list, n, err := lex.Read(s); err != api.ErrSyntax || n != at || len(list) != 0 {
			t.Errorf("Read %q: %v %d %v, want %d", s, list, n, err, at)
		}
	}
	for c := range 256 {
		_, at, err := lex.Read("a " + string([]byte{byte(c)}))
		can := strings.ContainsRune(" \t\n\r:()[]|^.;"+signs, rune(c)) || c >= '0' && c <= '9' || c >= 'a' && c <= 'z' || c >= 'A' && c <= 'Z'
		if can != (err == api.OK) || !can && at != 2 {
			t.Errorf("the byte %d: %d %v", c, at, err)
		}
	}
}

const signs = `+-*/\<>=~,@%&?`

// P7.1: a number that whole.Read refuses, by its digits and no more.
func TestNumbers(t *testing.T) {
	most := whole.Text(greatest(t))
	for s, ok := range map[string]bool{most: true, "1" + most: false, most[:len(most)-1] + "9": false, strings.Repeat("9", 4096): false, "0": true} {
		list, at, err := lex.Read(s)
		if ok && (err != api.OK || list[0] != lex.Tok{Kind: lex.Number, Text: s}) || !ok && (err != api.ErrSyntax || at != 0) {
			t.Errorf("Read %q: %d %v", s, at, err)
		}
	}
}

// greatest is the greatest number that whole has.
func greatest(t *testing.T) whole.Int {
	x := whole.Of(0)
	for range api.MaxDigits {
		var err api.Errno
		if x, err = whole.Mul(x, whole.Of(256)); err == api.OK {
			x, err = whole.Add(x, whole.Of(255))
		}
		if err != api.OK {
			t.Fatal(err)
		}
	}
	return x
}

// P7.1: texts and symbols of 1024 bytes and of one more, as what they say, not as they are written; names of any length.
func TestLongWords(t *testing.T) {
	long := strings.Repeat("a", 1024)
	quotes := strings.Repeat("'", 1024)
	for _, s := range []string{long, quotes, long[:1023] + "'", strings.Repeat("\xff", 1024)} {
		for _, hash := range []string{"", "#"} {
			kind := lex.Text
			if hash != "" {
				kind = lex.Symbol
			}
			list, at, err := lex.Read("b " + hash + lex.Quote(s) + " c")
			if err != api.OK || at != 0 || len(list) != 4 || list[1] != (lex.Tok{Kind: kind, Text: s, At: 2}) {
				t.Errorf("%d bytes: %d %v", len(s), at, err)
			}
			list, at, err = lex.Read("b " + hash + lex.Quote(s+"x") + " c")
			if err != api.ErrSyntax || at != 2 || len(list) != 0 {
				t.Errorf("%d bytes and one: %d %v", len(s), at, err)
			}
		}
	}
	for s, ok := range map[string]bool{long: true, long + "a": false, long[:1023] + ":": true, long + ":": false, long[:1022] + ":b": true, long[:1023] + ":b": false} {
		list, at, err := lex.Read("#" + s)
		if ok && (err != api.OK || list[0].Text != s) || !ok && (err != api.ErrSyntax || at != 0) {
			t.Errorf("a symbol of %d bytes: %d %v", len(s), at, err)
		}
		if lex.PlainSymbol(s) != ok {
			t.Errorf("PlainSymbol of %d bytes: not %v", len(s), ok)
		}
	}
	for _, s := range []string{long + "a", strings.Repeat("b", 4096)} {
		if list, _, err := lex.Read(s); err != api.OK || list[0].Text != s || !lex.PlainName(s) {
			t.Errorf("a name of %d bytes: %v", len(s), err)
		}
	}
	if list, _, err := lex.Read(long + "a:"); err != api.OK || list[0] != (lex.Tok{Kind: lex.Key, Text: long + "a:"}) {
		t.Error("a long Key", err)
	}
}

// P7.1: sources of 4096 bytes and of more; ErrSize comes ahead of a word that can not be.
func TestLongSources(t *testing.T) {
	for _, fill := range []string{" ", "a", "(", "+", "\n"} {
		if _, at, err := lex.Read(strings.Repeat(fill, 4096)); err != api.OK || at != 0 {
			t.Errorf("4096 of %q: %d %v", fill, at, err)
		}
	}
	for _, s := range []string{strings.Repeat(" ", 4097), strings.Repeat("$", 4097), strings.Repeat("'", 100000), "\"" + strings.Repeat("a", 4096)} {
		if list, at, err := lex.Read(s); err != api.ErrSize || at != 0 || len(list) != 0 {
			t.Errorf("%d of %q: %d %v", len(s), s[:1], at, err)
		}
	}
	if _, at, err := lex.Read(strings.Repeat(" ", 4095) + "$"); err != api.ErrSyntax || at != 4095 {
		t.Error("the last byte", at, err)
	}
}

// P7.2
func TestQuote(t *testing.T) {
	for s, want := range map[string]string{"": "''", "a": "'a'", "'": "''''", "it's": "'it''s'", "''": "''''''", "\xff\x00": "'\xff\x00'"} {
		if got := lex.Quote(s); got != want {
			t.Errorf("Quote %q: %q", s, got)
		}
	}
	big := strings.Repeat("'", 10000)
	if lex.Quote(big) != strings.Repeat("'", 20002) {
		t.Error("Quote of a long text")
	}
}

// P7.2
func TestPlain(t *testing.T) {
	for s, want := range map[string]bool{"a": true, "Z": true, "a1_": true, "a_b9": true, "": false, "_a": false, "1a": false, "a:": false, "a b": false, "a ": false, " a": false, "a-": false, "\xc3\xa9": false, "a\xff": false, "+": false, "a\x00": false} {
		if lex.PlainName(s) != want {
			t.Errorf("PlainName %q: not %v", s, want)
		}
	}
	for s, want := range map[string]bool{
		"a": true, "a:": true, "a:b": true, "a:b:": true, "a::": true, "a::b": true, "+": true, "==": true, "\\": true, "a1_:Z": true,
		"": false, "a b": false, "a ": false, " a": false, "a:=": false, "a:=b": false, "a::=": false, ":a": false, ":": false, "a:1": false, "a:_": false,
		"+++": false, "a+": false, "+a": false, "(": false, "'a'": false, "'": false, "1": false, "#a": false, "a#": false, "a\"c\"": false, "\"c\"a": false, "|": false, "a.": false, "\xff": false, "a\x00": false, "_": false,
	} {
		if lex.PlainSymbol(s) != want {
			t.Errorf("PlainSymbol %q: not %v", s, want)
		}
	}
}

// rules are the chapter's table as patterns, to hold Read against; of a name the colon is looked at by itself.
var rules = []struct {
	kind int
	form *regexp.Regexp
}{
	{-1, regexp.MustCompile(`^(?s:[ \t\n\r]|"[^"]*")`)},
	{lex.Number, regexp.MustCompile(`^[0-9]+`)},
	{lex.Text, regexp.MustCompile(`^(?s:'(?:[^']|'')*')`)},
	{lex.Symbol, regexp.MustCompile(`^(?s:#'(?:[^']|'')*')`)},
	{lex.Symbol, regexp.MustCompile(`^#[-+*/\\<>=~,@%&?]{1,2}`)},
	{lex.List, regexp.MustCompile(`^#\(`)},
	{lex.Binary, regexp.MustCompile(`^[-+*/\\<>=~,@%&?]{1,2}`)},
	{lex.Assign, regexp.MustCompile(`^:=`)},
	{lex.Colon, regexp.MustCompile(`^:`)},
	{lex.Open, regexp.MustCompile(`^\(`)},
	{lex.Close, regexp.MustCompile(`^\)`)},
	{lex.Begin, regexp.MustCompile(`^\[`)},
	{lex.Finish, regexp.MustCompile(`^\]`)},
	{lex.Bar, regexp.MustCompile(`^\|`)},
	{lex.Caret, regexp.MustCompile(`^\^`)},
	{lex.Dot, regexp.MustCompile(`^\.`)},
	{lex.Semi, regexp.MustCompile(`^;`)},
}

// In these an Assign's colon is written as a byte that is none, so that patterns need not look ahead.
var (
	symbolForm = regexp.MustCompile(`^#[A-Za-z][A-Za-z0-9_]*(?::(?:[A-Za-z][A-Za-z0-9_]*)?)*`)
	keyForm    = regexp.MustCompile(`^[A-Za-z][A-Za-z0-9_]*:`)
	nameForm   = regexp.MustCompile(`^[A-Za-z][A-Za-z0-9_]*`)
)

// first answers the kind of the first word of s (-1 of what stands between words) and its size, or a size of 0.
func first(s string) (int, int) {
	masked := strings.ReplaceAll(s, ":=", "\x00=")
	for _, r := range []struct {
		kind int
		form *regexp.Regexp
	}{{lex.Symbol, symbolForm}, {lex.Key, keyForm}, {lex.Name, nameForm}} {
		if size := len(r.form.FindString(masked)); size > 0 {
			return r.kind, size
		}
	}
	for _, r := range rules {
		size := len(r.form.FindString(s))
		if size > 0 && s[size-1] == '\'' && strings.HasPrefix(s[size:], "'") { // half of two at once ends nothing
			return 0, 0
		}
		if size > 0 {
			return r.kind, size
		}
	}
	return 0, 0
}

func said(kind int, s string) string {
	if kind == lex.Symbol {
		s = s[1:]
	}
	if (kind == lex.Symbol || kind == lex.Text) && s[0] == '\'' {
		return strings.ReplaceAll(s[1:len(s)-1], "''", "'")
	}
	return s
}

// plainly reads a source by the patterns.
func plainly(s string) ([]lex.Tok, int, api.Errno) {
	var list []lex.Tok
	for at := 0; at < len(s); {
		kind, size := first(s[at:])
		if size == 0 {
			return nil, at, api.ErrSyntax
		}
		own := s[at : at+size]
		if kind == lex.Number && len(own) > 1 && own[0] == '0' {
			return nil, at, api.ErrSyntax
		}
		if kind >= 0 {
			list = append(list, lex.Tok{Kind: kind, Text: said(kind, own), At: at})
		}
		at += size
	}
	return append(list, lex.Tok{At: len(s)}), 0, api.OK
}

// noise is a source of pieces that meet in all ways.
func noise(r *rand.Rand) string {
	pieces := []string{"a", "bC", "_", "9", "0", "10", ":", "=", ":=", "::", "'", "''", "'x'", "\"", "\"y\"", "#", "#(", "#a", "(", ")", "[", "]", "|", "^", ".", ";", "+", "-", "<", "\\", "?", " ", "\n", "\t"}
	var b strings.Builder
	for range r.Intn(12) {
		b.WriteString(pieces[r.Intn(len(pieces))])
		if r.Intn(60) == 0 {
			b.WriteByte(byte(r.Intn(256)))
		}
	}
	return b.String()
}

// P7.1: sources of any kind are parted as the patterns say.
func TestByPatterns(t *testing.T) {
	r := rand.New(rand.NewSource(7))
	good := 0
	for range 60000 {
		s := noise(r)
		list, at, err := lex.Read(s)
		wantList, wantAt, wantErr := plainly(s)
		if err != wantErr || at != wantAt || !slices.Equal(list, wantList) {
			t.Fatalf("Read %q: %v %d %v, want %v %d %v", s, list, at, err, wantList, wantAt, wantErr)
		}
		if err == api.OK {
			good++
		}
		if is := len(wantList) == 2 && wantList[0] == (lex.Tok{Kind: lex.Name, Text: s}); lex.PlainName(s) != is {
			t.Fatalf("PlainName %q: not %v", s, is)
		}
		list, _, _ = plainly("#" + s)
		is := len(list) == 2 && list[0] == (lex.Tok{Kind: lex.Symbol, Text: s}) && s[:1] != "'"
		if lex.PlainSymbol(s) != is {
			t.Fatalf("PlainSymbol %q: not %v", s, is)
		}
	}
	if good < 5000 {
		t.Error("too few sources that can be", good)
	}
}

// written is a word as it stands in a source.
func written(w lex.Tok) string {
	switch {
	case w.Kind == lex.Text:
		return lex.Quote(w.Text)
	case w.Kind == lex.Symbol && lex.PlainSymbol(w.Text):
		return "#" + w.Text
	case w.Kind == lex.Symbol:
		return "#" + lex.Quote(w.Text)
	}
	return w.Text
}

func placeless(list []lex.Tok) []lex.Tok {
	out := slices.Clone(list)
	for i := range out {
		out[i].At = 0
	}
	return out
}

// P7.3 and P7.4: words written with a blank behind each are read as the same; what stands behind a blank changes nothing ahead of it.
func TestWrittenAnew(t *testing.T) {
	r := rand.New(rand.NewSource(73))
	for range 20000 {
		s := noise(r)
		list, _, err := lex.Read(s)
		if err != api.OK {
			continue
		}
		var b strings.Builder
		for _, w := range list {
			b.WriteString(written(w) + " ")
		}
		again, _, err := lex.Read(b.String())
		if err != api.OK || !slices.Equal(placeless(again), placeless(list)) {
			t.Fatalf("%q, written %q: %v", s, b.String(), again)
		}
		more := s + " " + noise(r)
		longer, at, err := lex.Read(more)
		if err == api.OK && !slices.Equal(longer[:len(list)-1], list[:len(list)-1]) || err != api.OK && at <= len(s) {
			t.Fatalf("%q: %v %d, with more behind it than %q: %v", more, longer, at, s, list)
		}
	}
}

// Rule 4: what a caller writes into an answer is seen by no later one.
func TestAnswersAreNew(t *testing.T) {
	a, _, _ := lex.Read("a b c")
	a[0].Text = "x"
	_ = append(a[:1], lex.Tok{Kind: lex.List})
	if b, _, _ := lex.Read("a b c"); words(b) != "Name<a> Name<b> Name<c> End<>" {
		t.Error(words(b))
	}
}

// Rule 1: bytes of any kind.
func TestAnyBytes(t *testing.T) {
	r := rand.New(rand.NewSource(71))
	for range 3000 {
		b := make([]byte, r.Intn(50))
		for i := range b {
			b[i] = byte(r.Intn(256))
		}
		s := string(b)
		list, at, err := lex.Read(s)
		if (err == api.OK) != (len(list) > 0) || err == api.OK && at != 0 || at > len(s) {
			t.Fatalf("%q: %v %d %v", s, list, at, err)
		}
		lex.PlainName(s)
		lex.PlainSymbol(s)
		if again, _, err := lex.Read(lex.Quote(s)); err != api.OK || again[0] != (lex.Tok{Kind: lex.Text, Text: s}) {
			t.Fatalf("Quote %q", s)
		}
	}
}
