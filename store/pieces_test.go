package store_test

import (
	"bytes"
	"math/rand"
	"slices"
	"testing"

	"lapidary/api"
	"lapidary/store"
	"lapidary/value"
)

// modelPieces are the pieces by the chapter's words: one change more, as long as PutRecord makes at most 4000 bytes of them.
func modelPieces(t *testing.T, r value.Record) [][]byte {
	t.Helper()
	var out [][]byte
	rest := r.Changes
	for {
		n := min(1, len(rest))
		for n < len(rest) && len(written(t, rec(r.Commit, rest[:n+1]...))) <= 4000 {
			n++
		}
		if n == len(rest) {
			return append(out, line(t, 2, rec(r.Commit, rest...)))
		}
		out = append(out, line(t, 1, rec(r.Commit, rest[:n]...)))
		rest = rest[n:]
	}
}

// inPieces asks that a record is in pieces as the model says, and tells how many changes each has.
func inPieces(t *testing.T, r value.Record) []int {
	t.Helper()
	got, err := store.Pieces(r)
	if err != api.OK || !slices.EqualFunc(got, modelPieces(t, r), bytes.Equal) {
		t.Fatalf("Pieces of %d changes: %d pieces, %d", len(r.Changes), len(got), err)
	}
	var counts []int
	var all []value.Change
	for _, p := range got {
		part, err := value.GetRecord(p[1:])
		if err != api.OK || part.Commit != r.Commit {
			t.Fatalf("a piece of commit %d: %d", part.Commit, err)
		}
		counts = append(counts, len(part.Changes))
		all = append(all, part.Changes...)
	}
	if !sameRecord(rec(r.Commit, all...), r) {
		t.Fatal("the pieces together are another record")
	}
	return counts
}

func counts(t *testing.T, r value.Record, want ...int) {
	t.Helper()
	if got := inPieces(t, r); !slices.Equal(got, want) {
		t.Errorf("pieces with %v changes, want %v", got, want)
	}
}

// P19.1: a record of no changes, and of few.
func TestPiecesOfFew(t *testing.T) {
	l, err := store.Pieces(rec(5))
	if err != api.OK || len(l) != 1 || !bytes.Equal(l[0], []byte{2, 5, 0}) {
		t.Errorf("Pieces of no changes = %v, %d", l, err)
	}
	l, err = store.Pieces(rec(300, gone(7)))
	if err != api.OK || len(l) != 1 || !bytes.Equal(l[0], []byte{2, 0xac, 2, 1, 7, 1}) {
		t.Errorf("Pieces of one change = %v, %d", l, err)
	}
	counts(t, rec(1), 0)
	counts(t, rec(api.MaxCommit), 0)
	counts(t, rec(1, put(1, a), gone(2), put(api.MaxOops, b)), 3)
}

// P19.1: changes that go into a piece of just 4000 bytes, and of a byte more.
func TestPiecesAtTheEdge(t *testing.T) {
	for _, commit := range []int64{1, 127, 128, api.MaxCommit} {
		just := filled(t, 4000, commit, 1)
		n := len(just.Changes)
		counts(t, filled(t, 3999, commit, 1), n)
		counts(t, just, n)
		counts(t, filled(t, 4001, commit, 1), n-1, 1)
		more := append(slices.Clone(just.Changes), gone(api.MaxOops))
		counts(t, rec(commit, more...), n, 1)
		second := append(slices.Clone(just.Changes), filled(t, 4000, commit, 100).Changes...)
		counts(t, rec(commit, second...), n, n)
		third := append(slices.Clone(second), gone(api.MaxOops))
		counts(t, rec(commit, third...), n, n, 1)
	}
}

// P19.1: 128 changes take a byte more for how many they are.
func TestPiecesOfManyChanges(t *testing.T) {
	small := rec(1)
	for oop := range int64(124) {
		small.Changes = append(small.Changes, put(oop+1, text(2)))
	}
	for oop := int64(125); oop < 128; oop++ {
		small.Changes = append(small.Changes, put(oop, text(900)))
	}
	counts(t, grown(t, 4000, small, 128), 128)
	counts(t, grown(t, 4001, small, 128), 127, 1)
	counts(t, grown(t, 4002, small, 128), 127, 1)
	var all []value.Change
	for oop := range int64(api.MaxOops) {
		all = append(all, gone(oop+1))
	}
	// Two bytes of each up to 127, then three; 1 and 2 are those of the commit and of how many there are.
	counts(t, rec(1, all...), 1374, 1332, 1332, 58)
}

// P19.1: no change is too long for a piece of its own.
func TestPiecesOfTheGreatest(t *testing.T) {
	one := rec(api.MaxCommit, put(api.MaxOops, greatest()))
	if n := len(written(t, one)); n != 3600 {
		t.Errorf("the greatest change has %d bytes", n)
	}
	counts(t, one, 1)
	counts(t, rec(api.MaxCommit, put(1, greatest()), put(2, a), put(3, greatest()), put(4, greatest())), 2, 1, 1)
	all := rec(api.MaxCommit)
	for oop := range int64(api.MaxOops) {
		all.Changes = append(all.Changes, put(oop+1, greatest()))
	}
	l, err := store.Pieces(all)
	if err != api.OK || len(l) != api.MaxOops {
		t.Fatalf("Pieces of all that can be = %d pieces, %d", len(l), err)
	}
	for i, p := range l {
		if last := i == len(l)-1; (p[0] == 2) != last || !last && p[0] != 1 {
			t.Fatalf("the piece %d is a %d", i, p[0])
		}
	}
}

// P19.1: any record.
func TestPiecesAsTheModel(t *testing.T) {
	for seed := range int64(60) {
		r := rand.New(rand.NewSource(seed))
		inPieces(t, rec(1+r.Int63n(1<<r.Intn(40)), someChanges(r, r.Int63n(900))...))
	}
}

// P19.1: what can not be.
func TestPiecesOfWrong(t *testing.T) {
	for _, r := range wrong() {
		if l, err := store.Pieces(r); l != nil || err != api.ErrArg {
			t.Errorf("Pieces of what can not be = %v, %d", l, err)
		}
	}
}

// DOC.md, rules 4 and 5: an answer is memory of its own, and what is handed in is not changed.
func TestPiecesOwnMemory(t *testing.T) {
	r := filled(t, 9000, 1, 1)
	before := filled(t, 9000, 1, 1)
	l, _ := store.Pieces(r)
	want := modelPieces(t, before)
	for i := range l {
		l[i] = append(l[i], 9)
		clear(l[i][:1])
		for j := range l {
			if j > i && !bytes.Equal(l[j], want[j]) {
				t.Errorf("the piece %d shares memory with %d", i, j)
			}
		}
	}
	if !sameRecord(r, before) {
		t.Error("Pieces changed its argument")
	}
	l, _ = store.Pieces(r)
	r.Changes[0].Obj.Bytes[0] = '?'
	if !slices.EqualFunc(l, want, bytes.Equal) {
		t.Error("another answer is another one")
	}
}
