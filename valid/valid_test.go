package valid_test

import (
	"math"
	"slices"
	"testing"

	"lapidary/api"
	"lapidary/valid"
)

func oops(list ...int64) []int64 { return list }

// by is a commit that wrote some objects, of one that began just ahead of it.
func by(commit int64, writes ...int64) valid.Txn {
	return valid.Txn{Base: commit - 1, Commit: commit, Writes: writes}
}

func since(base int64, reads, writes []int64) valid.Txn {
	return valid.Txn{Base: base, Reads: reads, Writes: writes}
}

// copied is transactions in memory of their own, as they were.
func copied(l []valid.Txn) []valid.Txn {
	var out []valid.Txn
	for _, t := range l {
		out = append(out, valid.Txn{Base: t.Base, Commit: t.Commit, Reads: slices.Clone(t.Reads), Writes: slices.Clone(t.Writes)})
	}
	return out
}

func same(s, t valid.Txn) bool {
	return s.Base == t.Base && s.Commit == t.Commit && slices.Equal(s.Reads, t.Reads) && slices.Equal(s.Writes, t.Writes)
}

// passes asks for no clash, whatever t's Commit is, and that nothing that is handed in is changed.
func passes(t *testing.T, done []valid.Txn, x valid.Txn) {
	t.Helper()
	checked(t, done, x, 0, api.OK)
}

func clashes(t *testing.T, done []valid.Txn, x valid.Txn, oop int64) {
	t.Helper()
	checked(t, done, x, oop, api.ErrClash)
}

func checked(t *testing.T, done []valid.Txn, x valid.Txn, oop int64, want api.Errno) {
	t.Helper()
	for _, commit := range oops(0, x.Base, 3, -1, math.MaxInt64, math.MinInt64) {
		x.Commit = commit
		old := copied(append(slices.Clone(done), x))
		if n, err := valid.Check(done, x); n != oop || err != want {
			t.Errorf("Check(%v, %v) = %d %v, want %d %v", done, x, n, err, oop, want)
		}
		if !slices.EqualFunc(append(slices.Clone(done), x), old, same) {
			t.Errorf("Check has changed what was given: %v %v, before %v", done, x, old)
		}
	}
}

// P17.1: the chapter's example, and a Base one below, at and above a Commit.
func TestCheckBase(t *testing.T) {
	done := []valid.Txn{{Commit: 3, Writes: oops(5, 7)}}
	clashes(t, done, since(2, oops(7), nil), 7)
	passes(t, done, since(3, oops(7), nil))
	passes(t, done, since(4, oops(7), nil))
	clashes(t, done, since(0, oops(7), nil), 7)
	clashes(t, done, since(-1, oops(7), nil), 7)
	clashes(t, done, since(math.MinInt64, oops(7), nil), 7)
	passes(t, done, since(math.MaxInt64, oops(7), nil))
	passes(t, done, since(api.MaxCommit, oops(7), nil))
}

// P17.1: what is read and what is written is asked of what others wrote, and of nothing else of them.
func TestCheckWhat(t *testing.T) {
	done := []valid.Txn{{Base: 9, Commit: 4, Reads: oops(1, 2), Writes: oops(3, 5)}}
	clashes(t, done, since(3, oops(3), nil), 3)
	clashes(t, done, since(3, nil, oops(3)), 3)
	clashes(t, done, since(3, oops(3), oops(3)), 3)
	clashes(t, done, since(3, oops(1, 9), oops(8, 5)), 5)
	passes(t, done, since(3, oops(1, 2, 4), oops(1, 2, 6)))
	passes(t, done, since(3, nil, nil))
	passes(t, []valid.Txn{{Commit: 4}}, since(3, oops(1), oops(2)))
	passes(t, nil, since(3, oops(1), oops(2)))
	passes(t, nil, valid.Txn{})
}

// P17.1: of several that clash the least object, in whatever order they stand.
func TestCheckLeast(t *testing.T) {
	done := []valid.Txn{by(8, 40, 20), by(5, 30), by(2, 1), by(7, 50, 10, 50)}
	clashes(t, done, since(2, oops(50, 40, 30, 20, 10, 1), nil), 10)
	clashes(t, done, since(2, nil, oops(50, 40, 30, 20)), 20)
	clashes(t, done, since(2, oops(50, 30), oops(40)), 30)
	clashes(t, done, since(2, oops(50), oops(40, 60)), 40)
	clashes(t, done, since(7, oops(50, 40, 30, 20, 10, 1), nil), 20)
	clashes(t, done, since(1, oops(50, 1), nil), 1)
	passes(t, done, since(7, oops(50, 30, 10, 1), oops(10, 30)))
	// an object that several wrote: the last one of them tells
	done = []valid.Txn{by(6, 5), by(3, 5), by(4, 5)}
	clashes(t, done, since(5, oops(5), nil), 5)
	passes(t, done, since(6, oops(5), nil))
}

// P17.1: objects and commits that are no good ones are as all others.
func TestCheckOdd(t *testing.T) {
	done := []valid.Txn{by(math.MaxInt64, 0, math.MinInt64), by(-7, -3), {Commit: math.MinInt64, Writes: oops(math.MaxInt64)}}
	clashes(t, done, since(0, oops(0, 1), nil), 0)
	clashes(t, done, since(0, oops(0, math.MinInt64), nil), math.MinInt64)
	clashes(t, done, since(math.MaxInt64-1, oops(0), nil), 0)
	passes(t, done, since(math.MaxInt64, oops(0), nil))
	clashes(t, done, since(-8, nil, oops(-3)), -3)
	passes(t, done, since(-7, nil, oops(-3)))
	passes(t, done, since(math.MinInt64, oops(math.MaxInt64), nil))
}

func serial(t *testing.T, done []valid.Txn, place int, oop int64, want bool) {
	t.Helper()
	old := copied(done)
	if n, m, ok := valid.Serial(done); n != place || m != oop || ok != want {
		t.Errorf("Serial(%v) = %d %d %v, want %d %d %v", done, n, m, ok, place, oop, want)
	}
	if !slices.EqualFunc(done, old, same) {
		t.Errorf("Serial has changed what was given: %v, before %v", done, old)
	}
}

func txn(base, commit int64, reads, writes []int64) valid.Txn {
	return valid.Txn{Base: base, Commit: commit, Reads: reads, Writes: writes}
}

// P17.2: a commit counts that is above a Base and below a Commit; both ends do not.
func TestSerialBetween(t *testing.T) {
	serial(t, nil, 0, 0, true)
	serial(t, []valid.Txn{{}}, 1, 0, true)
	wrote := txn(3, 4, nil, oops(7))
	serial(t, []valid.Txn{wrote, txn(3, 5, oops(7), nil)}, 1, 7, false)
	serial(t, []valid.Txn{wrote, txn(3, 5, nil, oops(7))}, 1, 7, false)
	serial(t, []valid.Txn{wrote, txn(4, 5, oops(7), oops(7))}, 2, 0, true)
	serial(t, []valid.Txn{wrote, txn(3, 4, oops(7), oops(7))}, 2, 0, true)
	serial(t, []valid.Txn{wrote, txn(0, 3, oops(7), oops(7))}, 2, 0, true)
	serial(t, []valid.Txn{wrote, txn(9, 3, oops(7), oops(7))}, 2, 0, true)
	serial(t, []valid.Txn{wrote, txn(3, 5, oops(6), oops(8))}, 2, 0, true)
	// what it wrote itself does not count, however early it began
	serial(t, []valid.Txn{txn(0, 9, oops(7), oops(7))}, 1, 0, true)
	// the first commit behind the Base is behind its own, too
	serial(t, []valid.Txn{txn(1, 2, nil, oops(7)), txn(8, 9, nil, oops(7)), txn(2, 5, oops(7), nil)}, 3, 0, true)
	serial(t, []valid.Txn{txn(1, 2, nil, oops(7)), txn(8, 9, nil, oops(7)), txn(1, 5, oops(7), nil)}, 2, 7, false)
	serial(t, []valid.Txn{txn(1, 2, nil, oops(7)), txn(3, 4, nil, oops(7)), txn(2, 5, oops(7), nil)}, 2, 7, false)
}

// P17.2: the first one in the list, whatever the commits are, and the least of its objects.
func TestSerialFirst(t *testing.T) {
	late := txn(5, 9, oops(40, 20), oops(30))
	early := txn(0, 6, nil, oops(30, 20, 40))
	serial(t, []valid.Txn{late, early}, 0, 20, false)
	serial(t, []valid.Txn{early, late}, 1, 20, false)
	serial(t, []valid.Txn{early, {}, late, late}, 2, 20, false)
	serial(t, []valid.Txn{early, txn(5, 9, oops(40), oops(30)), late}, 1, 30, false)
	serial(t, []valid.Txn{{Commit: 1, Writes: oops(4)}, {Commit: 2, Reads: oops(4)}}, 1, 4, false)
	serial(t, []valid.Txn{{Commit: 1, Writes: oops(0)}, {Commit: 2, Reads: oops(0, 3)}}, 1, 0, false)
	serial(t, []valid.Txn{{Commit: 1, Writes: oops(0, -3)}, {Commit: 2, Reads: oops(0, -3)}}, 1, -3, false)
}

// P17.2: numbers at the ends of all.
func TestSerialOdd(t *testing.T) {
	const low, high = math.MinInt64, math.MaxInt64
	serial(t, []valid.Txn{txn(0, low, nil, oops(1)), txn(low, high, oops(1), nil)}, 2, 0, true)
	serial(t, []valid.Txn{txn(0, low+1, nil, oops(1)), txn(low, high, oops(1), nil)}, 1, 1, false)
	serial(t, []valid.Txn{txn(0, high, nil, oops(1)), txn(low, high, oops(1), nil)}, 2, 0, true)
	serial(t, []valid.Txn{txn(0, high-1, nil, oops(1)), txn(low, high, oops(1), nil)}, 1, 1, false)
	serial(t, []valid.Txn{txn(0, high, nil, oops(1)), txn(low, low, oops(1), nil)}, 2, 0, true)
}

// takes asks All for some with their commits, in memory of their own.
func takes(t *testing.T, l []valid.Txn, want ...valid.Txn) {
	t.Helper()
	old := copied(l)
	got := valid.All(l)
	if !slices.EqualFunc(got, want, same) {
		t.Errorf("All(%v) = %v, want %v", l, got, want)
	}
	for i := range got {
		scribble(got[i].Reads)
		scribble(got[i].Writes)
	}
	if !slices.EqualFunc(l, old, same) {
		t.Errorf("All has changed what was given, or shares it: %v, before %v", l, old)
	}
}

func scribble(list []int64) {
	for i := range list {
		list[i] = -99
	}
	_ = append(list, -99)
}

// P17.2: whose Check is OK is taken, by the next commit behind its Base and behind all that were taken.
func TestAll(t *testing.T) {
	takes(t, nil)
	takes(t, []valid.Txn{{}}, valid.Txn{Commit: 1})
	takes(t, []valid.Txn{{Commit: 77}, {Commit: -5}}, valid.Txn{Commit: 1}, valid.Txn{Commit: 2})
	takes(t,
		[]valid.Txn{since(0, nil, oops(1)), since(0, oops(1), nil), since(1, oops(1), oops(2)), since(1, oops(1), oops(3)), since(1, nil, oops(2)), since(2, nil, oops(2))},
		txn(0, 1, nil, oops(1)), txn(1, 2, oops(1), oops(2)), txn(1, 3, oops(1), oops(3)), txn(2, 4, nil, oops(2)))
	// a Base that is ahead of all commits
	takes(t, []valid.Txn{since(10, nil, oops(1)), since(3, nil, oops(2)), since(11, oops(1), nil), since(10, oops(1), nil), since(20, oops(2), nil)},
		txn(10, 11, nil, oops(1)), txn(3, 12, nil, oops(2)), txn(11, 13, oops(1), nil), txn(20, 21, oops(2), nil))
	// who is not taken stands in nobody's way
	takes(t, []valid.Txn{since(0, nil, oops(1)), since(0, oops(1), oops(2)), since(0, oops(2), nil)},
		txn(0, 1, nil, oops(1)), txn(0, 2, oops(2), nil))
	// one list that stands in several of them
	list := oops(1, 2)
	takes(t, []valid.Txn{since(0, list, list), since(1, list, list)}, txn(0, 1, list, list), txn(1, 2, list, list))
}

// P17.2: a Base below 0 or above MaxCommit is left out, and stands in nobody's way.
func TestAllBase(t *testing.T) {
	const top = int64(api.MaxCommit)
	for _, base := range oops(-1, math.MinInt64, top+1, math.MaxInt64) {
		takes(t, []valid.Txn{since(base, nil, oops(1))})
		takes(t, []valid.Txn{since(base, nil, oops(1)), since(0, oops(1), nil)}, txn(0, 1, oops(1), nil))
	}
	takes(t, []valid.Txn{since(top, nil, oops(1)), since(top, nil, oops(2)), since(0, nil, oops(3)), since(top, oops(1), nil)},
		txn(top, top+1, nil, oops(1)), txn(top, top+2, nil, oops(2)), txn(0, top+3, nil, oops(3)))
	takes(t, []valid.Txn{since(top-1, nil, oops(1)), since(top, oops(1), nil)},
		txn(top-1, top, nil, oops(1)), txn(top, top+1, oops(1), nil))
}
