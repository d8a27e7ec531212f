package tree_test

import (
	"math/rand"
	"strings"
	"testing"

	"lapidary/api"
	"lapidary/tree"
)

// P8.3: how each kind of part is written.
func TestText(t *testing.T) {
	for s, want := range map[string]string{
		"":          "",
		"a.b . ^c.": "a. b. ^c",
		"|a b|a":    "| a b | a",
		"| |":       "",
		"^ a":       "^a",
		"a:=b:=3":   "a := b := 3",
		"'it''s'":   "'it''s'",
		"#a:b:. #'a:b:'. #'a b'. #''. #+. #'+'. #'+++'. #'a:='. #'it''s'. #'1'": "#a:b:. #a:b:. #'a b'. #''. #+. #+. #'+++'. #'a:='. #'it''s'. #'1'",
		"#( 1 'a' b c: + (true nil) #false #'x y')":                             "#(1 'a' #b #c: #+ #(true nil) #false #'x y')",
		"#( )":                                   "#()",
		"[]":                                     "[]",
		"[:a]":                                   "[:a | ]",
		"[:a :b|a]":                              "[:a :b | a]",
		"[ :a || b | c]":                         "[:a | | b | c]",
		"[|a|b. ^c.]":                            "[| a | b. ^c]",
		"((a)) (b)":                              "!",
		"a  b":                                   "a b",
		"a+b":                                    "a + b",
		"a k:b l:c":                              "a k: b l: c",
		"(a)b":                                   "a b",
		"(a b)c":                                 "a b c",
		"(a b)+(c d)":                            "a b + c d",
		"(a+b)+c":                                "a + b + c",
		"(a+b)c":                                 "(a + b) c",
		"a+(b+c)":                                "a + (b + c)",
		"(a+b)k:(c+d)":                           "a + b k: c + d",
		"(a k: b)k: (c k: d)":                    "(a k: b) k: (c k: d)",
		"(a k: b)+(c k: d)":                      "(a k: b) + (c k: d)",
		"(a k: b)c":                              "(a k: b) c",
		"(a:=b)c. (a:=b)+(c:=d). (a:=b)k:(c:=d)": "(a := b) c. (a := b) + (c := d). (a := b) k: (c := d)",
		"(a b;c)d. (a b;c)+(d e;f). (a b;c)k:(d e;f)":      "(a b; c) d. (a b; c) + (d e; f). (a b; c) k: (d e; f)",
		"a:=(b k: c). ^(a+b). (a k: b). a:=(b c;d)":        "!",
		"x:=(b k: c). (a+b). (a k: b). x:=(b c;d). ^(a+b)": "x := b k: c. a + b. a k: b. x := b c; d. ^a + b",
		"a b;c":                             "a b; c",
		"a+b;k:c;d":                         "a + b; k: c; d",
		"a+b+c;d":                           "a + b + c; d",
		"(a+b)c;+d":                         "(a + b) c; + d",
		"a+(b+c);+(d+e);k:(f+g);k:(h k: i)": "a + (b + c); + (d + e); k: f + g; k: (h k: i)",
		"(a k: b) c; d":                     "(a k: b) c; d",
		"[a] b:[c]":                         "[a] b: [c]",
		"-1":                                "!",
		"#(- 1)":                            "#(#- 1)",
	} {
		n, at, err := tree.Parse(s)
		if want == "!" {
			if err != api.ErrSyntax {
				t.Errorf("%q: %v", s, err)
			}
			continue
		}
		if err != api.OK || tree.Text(n) != want {
			t.Errorf("%q: %d %v %q, want %q", s, at, err, tree.Text(n), want)
		}
	}
}

// P8.3: patterns.
func TestTextOfMethods(t *testing.T) {
	for s, want := range map[string]string{"foo": "foo ", "foo bar.": "foo bar", "foo|t|t": "foo | t | t", "+x": "+ x ", "== x ^x": "== x ^x", "at:x put:y|t|t:=x": "at: x put: y | t | t := x", "a:a a:a [:a|]": "a: a a: a [:a | ]"} {
		n, at, err := tree.Method(s)
		if err != api.OK || tree.Text(n) != want {
			t.Errorf("%q: %d %v %q, want %q", s, at, err, tree.Text(n), want)
		}
	}
}

// P8.3: parts of a tree are written as they are within it.
func TestTextOfParts(t *testing.T) {
	n, _, err := tree.Parse("x := a + b k: #(1 (2)); l: 3")
	if err != api.OK {
		t.Fatal(err)
	}
	casc := n.Kids[0].Kids[0]
	for want, part := range map[string]tree.Node{"a + b k: #(1 #(2)); l: 3": casc, "a + b": casc.Kids[0], " k: #(1 #(2))": casc.Kids[1], "#(1 #(2))": casc.Kids[1].Kids[0], "#(2)": casc.Kids[1].Kids[0].Kids[1], " l: 3": casc.Kids[2]} {
		if got := tree.Text(part); got != want {
			t.Errorf("%q, want %q", got, want)
		}
	}
}

// P7: nothing panics, not even of trees that no source made, or of any bytes.
func TestAnyTrees(t *testing.T) {
	r := rand.New(rand.NewSource(8))
	texts := []string{"", "a", "+", "k:", "k:l:", "\xff", "a::", "it's"}
	var any func(left int) tree.Node
	any = func(left int) tree.Node {
		n := tree.Node{Kind: r.Intn(17) - 2, Text: texts[r.Intn(len(texts))], N: r.Intn(7) - 2}
		for range r.Intn(3) {
			n.Names = append(n.Names, texts[r.Intn(len(texts))])
		}
		for range r.Intn(4) {
			if left > 0 {
				n.Kids = append(n.Kids, any(left-1))
			}
		}
		return n
	}
	for range 3000 {
		tree.Text(any(3))
	}
	for range 3000 {
		b := make([]byte, r.Intn(30))
		for i := range b {
			b[i] = byte(r.Intn(256))
		}
		for _, read := range []reads{tree.Parse, tree.Method} {
			if n, at, err := read(string(b)); err == api.OK && at != 0 || err != api.OK && (n.Kind != 0 || at < 0 || at > len(b)) {
				t.Fatalf("%q: %v %d %v", b, n, at, err)
			}
		}
		tree.Args(string(b))
	}
	if tree.Text(tree.Node{}) != "" {
		t.Error("Text of nothing")
	}
}

// P8.4: a List's name of more bytes than a symbol in a source may have is written as it must be, in quotes; its text can not be read again.
func TestLongNamesInLists(t *testing.T) {
	long := strings.Repeat("a", 1025)
	n, _, err := tree.Parse("#(" + long + ")")
	if err != api.OK || n.Kids[0].Kids[0].Text != long || tree.Text(n) != "#(#'"+long+"')" {
		t.Error(err, tree.Text(n))
	}
	n, _, err = tree.Parse("#(" + long[1:] + ")")
	if err != api.OK || tree.Text(n) != "#(#"+long[1:]+")" {
		t.Error(err, tree.Text(n))
	}
}
