package run_test

import (
	"fmt"
	"testing"

	"lapidary/class"
	"lapidary/view"
)

// P15.2: blocks are run with as many arguments as they have.
func TestBlockArguments(t *testing.T) {
	wants(t, world(t, nil),
		"[] value", "nil",
		"[3] value", "3",
		"[3. 4] value", "4",
		"[:a | a] value: 3", "3",
		"[:a] value: 3", "nil",
		"[:a :b | a - b] value: 3 value: 4", "-1",
		"[:a :b | | c | c] value: 3 value: 4", "nil",
		"[3] value: 4", "! wrong number of arguments",
		"[3] value: 4 value: 5", "! wrong number of arguments",
		"[:a | a] value", "! wrong number of arguments",
		"[:a | a] value: 3 value: 4", "! wrong number of arguments",
		"[:a :b | a] value", "! wrong number of arguments",
		"[:a :b | a] value: 3", "! wrong number of arguments",
		"[:a :b :c | a] value: 3 value: 4", "! wrong number of arguments",
		"[] numArgs", "0",
		"[:a] numArgs", "1",
		"[:a :b :c | | d | a] numArgs", "3",
		"[:a | a] value: [3]", "a block",
		"([:a | a] value: [3]) value", "3",
	)
}

// P15.2: each time a block comes it is another one.
func TestBlockSame(t *testing.T) {
	wants(t, world(t, nil),
		"[] == []", "false",
		"| b | b := []. b == b", "true",
		"| b c | b := [[]]. c := b value. c == b value", "false",
		"| b | b := []. b = b", "true",
		"[] = []", "false",
		"[] class", "class Block",
		"[]", "a block",
	)
}

// P15.2: what a block can not be sent: natives with an argument that is no block; an object of Block is none.
func TestBlockKinds(t *testing.T) {
	v := rooted(t, slots(class.Block))
	for _, x := range []string{"nil", "3", "true", "'a'", "#()", "Block", "A"} {
		for _, native := range []string{"whileTrue:", "ensure:", "onError:"} {
			wants(t, v,
				"[false] "+native+" "+x, "! wrong kind",
				"| n | n := 1. [[n := 2. false] "+native+" "+x+"] onError: []. n", "1",
			)
		}
	}
	wants(t, v,
		"A value", "! wrong kind",
		"A value: 3", "! wrong kind",
		"A value: 3 value: 4", "! wrong kind",
		"A numArgs", "! wrong kind",
		"A whileTrue: [3]", "! wrong kind",
		"A ensure: [3]", "! wrong kind",
		"A onError: [3]", "! wrong kind",
	)
}

// P15.2: whileTrue: takes blocks without arguments; its test answers true or false.
func TestWhile(t *testing.T) {
	wants(t, world(t, nil),
		"[false] whileTrue: [1]", "nil",
		"[nil] whileTrue: [1]", "! wrong kind",
		"[3] whileTrue: [1]", "! wrong kind",
		"[] whileTrue: [1]", "! wrong kind",
		"[[true]] whileTrue: [1]", "! wrong kind",
		"[:a | false] whileTrue: [1]", "! wrong number of arguments",
		"[true] whileTrue: [:a | 1]", "! wrong number of arguments",
		"[false] whileTrue: [:a | 1]", "nil",
		"| n | n := 0. [n := n + 1. n = 3 ifTrue: [nil] ifFalse: [true]] whileTrue: []. n", "! wrong kind",
		"| n | n := 0. [[n < 5] whileTrue: [n := n + 1. n = 3 ifTrue: [nil foo]]] onError: [:e | n]", "3",
		"| n | n := 0. [[true] whileTrue: [n := n + 1. n = 3 ifTrue: [^n]]] ensure: [n := 9]", "3",
		"[1 / 0] whileTrue: [1]", "! by nought",
		"[true] whileTrue: [1 / 0]", "! by nought",
	)
}

// log is a world with L, which keeps what is said to it, and P, whose methods run blocks in many ways.
func log(t testing.TB) *view.View {
	v := world(t, nil)
	do(t, v, "Object subclass: #Log slots: 'said'", "Log compile: 'say: s said := said isNil ifTrue: [s] ifFalse: [said , s]. ^s'", "Log compile: 'said ^said'", "Root at: #L put: Log new",
		"Object subclass: #P slots: ''",
		"P compile: 'run: b b value. ^#end'",
		"P compile: 'out: b [b value. ^#inner] ensure: [L say: ''e'']. ^#end'",
		"P compile: 'block ^[^#late]'",
		"P compile: 'kept ^[:x | L say: ''k''. ^x]'",
		"P compile: 'pass: b ^[b value] ensure: [L say: ''p'']'",
		"P compile: 'over [^#first] ensure: [^#second]'",
		"P compile: 'deep [[[^1] ensure: [L say: ''a'']] ensure: [L say: ''b'']] ensure: [L say: ''c'']. L say: ''d'''",
		"P compile: 'caught [[^1] onError: [2]] value. ^3'",
		"P compile: 'find: n in: l l do: [:x | x = n ifTrue: [^#found]]. ^#none'",
		"P compile: 'nest: n n < 1 ifTrue: [^[^#dead]]. ^self nest: n - 1'",
	)
	return v
}

// said are sources, with what comes of each, and what was said on the way.
func said(t *testing.T, list ...string) {
	t.Helper()
	v := log(t)
	for i := 0; i+2 < len(list); i += 3 {
		w := v.Copy()
		got := came(t, w, list[i])
		if got != list[i+1] {
			t.Errorf("%q: %s, want %s", list[i], got, list[i+1])
		}
		if got := came(t, w, "L said"); got != fmt.Sprintf("%q", list[i+2]) && (got != "nil" || list[i+2] != "") {
			t.Errorf("%q has said %s, want %s", list[i], got, list[i+2])
		}
	}
}

// P15.2: a Return ends the method, or the source, in which its block stands, and everything between.
func TestReturn(t *testing.T) {
	said(t,
		"^3. ", "3", "",
		"L say: 'a'. ^3", "3", "a",
		"[^3] value. L say: 'a'", "3", "",
		"[[^3] value. L say: 'a'] value. L say: 'b'", "3", "",
		"P new run: [L say: 'a'. ^3]. L say: 'b'", "3", "a",
		"P new run: [P new run: [^3]]. L say: 'b'", "3", "",
		"P new find: 2 in: #(1 2 3)", "#found", "",
		"P new find: 4 in: #(1 2 3)", "#none", "",
		"#(1 2 3) do: [:x | x = 2 ifTrue: [^x]]. 9", "2", "",
		"P new caught", "1", "",
		"[:x | ^x] value: [4]", "a block", "",
		"| b | b := [:x | x = 0 ifTrue: [^7]. b value: x - 1]. b value: 5. 8", "7", "",
	)
}

// P15.2: a Return whose method is over is an error, which can be caught.
func TestReturnTooLate(t *testing.T) {
	said(t,
		"P new block value", "! can not return", "",
		"P new kept value: 5", "! can not return", "k",
		"[P new block value] onError: [:e | e]", `"can not return"`, "",
		"[P new block value. L say: 'a'] onError: [L say: 'b']. 6", "6", "b",
		"[P new block value] ensure: [L say: 'a']", "! can not return", "a",
		"(P new nest: 5) value", "! can not return", "",
		"P new run: P new block", "! can not return", "",
		"P new pass: P new block", "! can not return", "p",
		"| b | b := P new block. [b value] onError: [[b value] onError: [:e | e]]", `"can not return"`, "",
	)
}

// P15.2: ensured blocks are run behind a value, an error and a Return, innermost first, and it goes on.
func TestEnsure(t *testing.T) {
	said(t,
		"[3] ensure: [4]", "3", "",
		"[L say: 'a'. 3] ensure: [L say: 'b'. 4]", "3", "ab",
		"[1 / 0] ensure: [L say: 'a']", "! by nought", "a",
		"[[1 / 0] ensure: [L say: 'a']] ensure: [L say: 'b']", "! by nought", "ab",
		"[[1 / 0] ensure: [L say: 'a']] onError: [:e | L say: 'b'. e]", `"by nought"`, "ab",
		"[[[1 / 0] onError: [L say: 'x'. 5]] ensure: [L say: 'a']] onError: [L say: 'b']", "5", "xa",
		"[^3] ensure: [L say: 'a']. L say: 'b'", "3", "a",
		"[[[^3] ensure: [L say: 'a']] ensure: [L say: 'b']] ensure: [L say: 'c']. L say: 'd'", "3", "abc",
		"P new deep", "1", "abc",
		"P new out: []", "#inner", "e",
		"P new out: [^7]. 8", "7", "e",
		"P new out: [nil foo]", "! does not understand foo", "e",
		"P new pass: [3]", "3", "p",
		"[P new pass: [^3]] onError: [4]. 5", "3", "p",
		"P new run: [[^1] ensure: [L say: 'a']]. 2", "1", "a",
		"[P new kept] ensure: [L say: 'a']", "a block", "a",
		"[:a | a] ensure: [L say: 'a']", "! wrong number of arguments", "a",
		"[3] ensure: [:a | L say: 'a']", "! wrong number of arguments", "",
		"[1 / 0] ensure: [:a | L say: 'a']", "! wrong number of arguments", "",
	)
}

// P15.2: an ensured block that itself ends by an error or a Return: then that goes on; it is not run twice.
func TestEnsureEndsItself(t *testing.T) {
	said(t,
		"[L say: 'a'. 1 / 0] ensure: [L say: 'b'. nil foo]", "! does not understand foo", "ab",
		"[L say: 'a'. 1] ensure: [L say: 'b'. nil foo]", "! does not understand foo", "ab",
		"[L say: 'a'. ^1] ensure: [L say: 'b'. nil foo]", "! does not understand foo", "ab",
		"[L say: 'a'. 1 / 0] ensure: [L say: 'b'. ^2]. 3", "2", "ab",
		"[L say: 'a'. 1] ensure: [L say: 'b'. ^2]. 3", "2", "ab",
		"[L say: 'a'. ^1] ensure: [L say: 'b'. ^2]. 3", "2", "ab",
		"P new over", "#second", "",
		"[[1 / 0] ensure: [nil foo]] onError: [:e | e]", `"does not understand foo"`, "",
		"[[[1 / 0] ensure: [nil foo]] ensure: [L say: 'a'. nil bar]] ensure: [L say: 'b']", "! does not understand bar", "ab",
		"[[1 / 0] ensure: [[nil foo] onError: [L say: 'a']]] onError: [:e | e]", `"by nought"`, "a",
		"[[^1] ensure: [[^2] ensure: [L say: 'a']]] ensure: [L say: 'b']. 3", "2", "ab",
		"[[1 / 0] ensure: [[3] ensure: [L say: 'a']]] onError: [:e | e]", `"by nought"`, "a",
		"[[P new run: [^1]] ensure: [P new block value]] onError: [:e | e]", `"can not return"`, "",
	)
}

// P15.2: onError: takes errors alone, of what it runs alone; its block has the error's text, if it has an argument.
func TestOnError(t *testing.T) {
	said(t,
		"[3] onError: [4]", "3", "",
		"[1 / 0] onError: [4]", "4", "",
		"[1 / 0] onError: []", "nil", "",
		"[1 / 0] onError: [:e | e]", `"by nought"`, "",
		"[1 / 0] onError: [:e | e class]", "class String", "",
		"[1 / 0] onError: [:a :b | L say: 'a']", "! wrong number of arguments", "",
		"[3] onError: [:a :b | a]", "3", "",
		"[:a | a] onError: [:e | e]", `"wrong number of arguments"`, "",
		"[self error: 'a'] onError: [:e | e , 'b']", `"ab"`, "",
		"[1 / 0] onError: [:e | nil foo]", "! does not understand foo", "",
		"[[1 / 0] onError: [:e | nil foo]] onError: [:e | e]", `"does not understand foo"`, "",
		"[[1 / 0] onError: [:e | self error: e , '!']] onError: [:e | e]", `"by nought!"`, "",
		"[[1 / 0] onError: [3]. nil foo] onError: [:e | e]", `"does not understand foo"`, "",
		"[[nil foo] onError: [3]] value. 1 / 0", "! by nought", "",
		"[^3] onError: [4]. 5", "3", "",
		"[1 / 0] onError: [^3]. 5", "3", "",
		"[[1 / 0] onError: [^3]] ensure: [L say: 'a']. 5", "3", "a",
		"[L say: 'a'. P new run: [L say: 'b'. 1 / 0. L say: 'c']. L say: 'd'] onError: [L say: 'e']. 5", "5", "abe",
		"| n | n := 3. [n := 4. nil foo] onError: [n := n * 10]. n", "40", "",
	)
}

// P15.2: an error's new String is made just if the block has an argument; where there is no room, that is the error.
func TestOnErrorMakes(t *testing.T) {
	for source, made := range map[string]int{"[nil foo] onError: [1]": 0, "[nil foo] onError: [:e | 1]": 1, "[3] onError: [:e | 1]": 0} {
		v := world(t, nil)
		do(t, v, source)
		if len(v.News()) != made {
			t.Errorf("%q has made %d", source, len(v.News()))
		}
	}
	v := world(t, nil)
	fill(t, v, 0)
	wants(t, v,
		"[nil foo] onError: [1]", "1",
		"[nil foo] onError: [:e | 1]", "! no room",
		"[[nil foo] onError: [:e | 1]] onError: [2]", "2",
		"[[nil foo] onError: [:e | 1]] ensure: [2]", "! no room",
	)
}

// descent is a world with P, whose go:in: sends itself to the element at k of a list, with one more; and End, which answers k.
func descent(t testing.TB) *view.View {
	v := world(t, nil)
	do(t, v, "Object subclass: #P slots: ''", "P compile: 'go: k in: l ^(l at: k) go: k + 1 in: l'",
		"Object subclass: #End slots: ''", "End compile: 'go: k in: l ^k'")
	return v
}

// P15.2: 80 units may be active, the 81st is not run: methods.
func TestDepthOfMethods(t *testing.T) {
	v := descent(t)
	for n, want := range map[int]string{1: "2", 2: "3", 79: "80", 80: "81", 81: "! too deep", 82: "! too deep"} {
		source := fmt.Sprintf("| l | l := Array new: %d. 1 to: %d do: [:i | l at: i put: P new]. l at: %d put: End new. (l at: 1) go: 2 in: l", n, n, n)
		if got := came(t, v.Copy(), source); got != want {
			t.Errorf("%d methods: %s, want %s", n, got, want)
		}
	}
}

// P15.2: 80 units may be active, the 81st is not run: blocks, and both; those that are over do not count, nor do natives.
func TestDepth(t *testing.T) {
	wants(t, world(t, nil),
		"| b n | n := 0. b := [n := n + 1. b value]. [b value] onError: [n]", "79",
		"| b n | n := 0. b := [n := n + 1. b value]. b value", "! too deep",
		"| b n | n := 0. b := [n := n + 1. b value]. [[[b value] onError: [n]] value] value", "77",
		"| b n | n := 0. b := [n := n + 1. [b value] ensure: []]. [b value] onError: [n]", "40",
		"| b n | n := 0. b := [:k | k = 0 ifTrue: [0] ifFalse: [(b value: k - 1) + 1]]. b value: 25", "25",
		"| b n | n := 0. b := [:k | k = 0 ifTrue: [0] ifFalse: [(b value: k - 1) + 1]]. b value: 26", "! too deep",
		"1 to: 200 do: [:i | [[i] value] value]. 7", "7",
	)
}

// P15.2: what is too deep is an error like others: ensured blocks are run where there is room for them, and it can be caught.
func TestTooDeepIsCaught(t *testing.T) {
	wants(t, world(t, nil),
		"| b | b := [b value]. [b value] onError: [:e | e]", `"too deep"`,
		"| b n | n := 0. b := [[b value] ensure: [n := n + 1]]. [b value] onError: [:e | e]. n", "39",
		"| b n | n := 0. b := [n := n + 1. [b value] onError: [:e | n := n + 100. nil foo]]. [b value] onError: [:e | e]", `"does not understand foo"`,
		"| b | b := [[b value] onError: [[3] value]]. b value", "3",
	)
	v := world(t, nil)
	do(t, v, "Object subclass: #P slots: ''", "P compile: 'foo ^self foo'", "P compile: 'try ^[self foo] onError: [:e | e]'")
	wants(t, v, "P new foo", "! too deep", "P new try", `"too deep"`)
}
