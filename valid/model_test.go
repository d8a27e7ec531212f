package valid_test

import (
	"math/rand"
	"slices"
	"testing"

	"lapidary/api"
	"lapidary/valid"
)

// inWay is the least object that stands in the way of a transaction: of the writes of commits above its Base, and below an end, if there is one.
func inWay(done []valid.Txn, x valid.Txn, end *int64) (least int64, is bool) {
	for _, d := range done {
		if d.Commit <= x.Base || end != nil && d.Commit >= *end {
			continue
		}
		for _, oop := range d.Writes {
			if slices.Contains(x.Reads, oop) || slices.Contains(x.Writes, oop) {
				if !is || oop < least {
					least, is = oop, true
				}
			}
		}
	}
	return least, is
}

func modelCheck(done []valid.Txn, x valid.Txn) (int64, api.Errno) {
	if oop, is := inWay(done, x, nil); is {
		return oop, api.ErrClash
	}
	return 0, api.OK
}

func modelSerial(done []valid.Txn) (int, int64, bool) {
	for i, x := range done {
		if oop, is := inWay(done, x, &x.Commit); is {
			return i, oop, false
		}
	}
	return len(done), 0, true
}

func modelAll(l []valid.Txn) []valid.Txn {
	var out []valid.Txn
	for _, x := range l {
		if _, err := modelCheck(out, x); err != api.OK || x.Base < 0 || x.Base > api.MaxCommit {
			continue
		}
		x.Commit = x.Base
		for _, d := range out {
			x.Commit = max(x.Commit, d.Commit)
		}
		x.Commit++
		out = append(out, x)
	}
	return out
}

func someOops(r *rand.Rand, most int) []int64 {
	var out []int64
	for range r.Intn(most + 1) {
		out = append(out, r.Int63n(9)-1)
	}
	return out
}

func someTxn(r *rand.Rand, commits int64) valid.Txn {
	return valid.Txn{Base: r.Int63n(commits+2) - 1, Commit: r.Int63n(commits+2) - 1, Reads: someOops(r, 3), Writes: someOops(r, 2)}
}

func someTxns(r *rand.Rand, most int, commits int64) []valid.Txn {
	var out []valid.Txn
	for range r.Intn(most + 1) {
		out = append(out, someTxn(r, commits))
	}
	return out
}

// P17.1, P17.2: at random lists all is as the model says.
func TestModel(t *testing.T) {
	r := rand.New(rand.NewSource(1))
	for range 20000 {
		done, x := someTxns(r, 6, 8), someTxn(r, 8)
		n, err := valid.Check(done, x)
		if m, want := modelCheck(done, x); n != m || err != want {
			t.Fatalf("Check(%v, %v) = %d %v, want %d %v", done, x, n, err, m, want)
		}
		place, oop, ok := valid.Serial(done)
		if p, o, want := modelSerial(done); place != p || oop != o || ok != want {
			t.Fatalf("Serial(%v) = %d %d %v, want %d %d %v", done, place, oop, ok, p, o, want)
		}
		if got, want := valid.All(done), modelAll(done); !slices.EqualFunc(got, want, same) {
			t.Fatalf("All(%v) = %v, want %v", done, got, want)
		}
	}
}

// past is a history as its chapter says it.
type past struct {
	added  []valid.Txn
	kept   []int64
	forgot []int64 // all that was ever forgotten, rising
}

func (p *past) add(x valid.Txn) api.Errno {
	for _, d := range p.added {
		if x.Commit <= d.Commit {
			return api.ErrState
		}
	}
	p.added, p.kept = append(p.added, x), append(p.kept, x.Commit)
	return api.OK
}

func (p *past) forget(base int64) {
	if len(p.forgot) > 0 && base <= slices.Max(p.forgot) {
		return
	}
	p.forgot = append(p.forgot, base)
	p.kept = slices.DeleteFunc(p.kept, func(commit int64) bool { return commit <= base })
}

func (p *past) check(x valid.Txn) (int64, api.Errno) {
	if len(p.forgot) > 0 && x.Base < slices.Max(p.forgot) {
		return 0, api.ErrState
	}
	return modelCheck(p.added, x)
}

// P17.3: histories that go on at random are as the model says.
func TestHistoryModel(t *testing.T) {
	for seed := range int64(1000) {
		r := rand.New(rand.NewSource(seed))
		h, p := valid.New(), &past{}
		now := int64(-2)
		for range 40 {
			x := someTxn(r, 4)
			x.Base, x.Commit = x.Base+now-2, x.Commit+now
			switch k := r.Intn(8); {
			case k < 3:
				add(t, h, x, p.add(x))
				now += r.Int63n(3)
			case k == 3:
				h.Forget(x.Base)
				p.forget(x.Base)
			default:
				oop, want := p.check(x)
				asks(t, h, x, oop, want)
			}
			length(t, h, len(p.kept))
			if t.Failed() {
				t.Fatal("with the seed", seed)
			}
		}
	}
}

// P17.4: if nobody has committed since it began, it may commit, whatever it did.
func TestAloneMayCommit(t *testing.T) {
	r := rand.New(rand.NewSource(2))
	for range 5000 {
		done, h := valid.All(someTxns(r, 6, 8)), valid.New()
		last := int64(0)
		for _, d := range done {
			add(t, h, d, api.OK)
			last = d.Commit
		}
		x := someTxn(r, 8)
		x.Base = last + r.Int63n(2)
		passes(t, done, x)
		asks(t, h, x, 0, api.OK)
		if l := valid.All(append(slices.Clone(done), x)); len(l) != len(done)+1 {
			t.Fatalf("of %v the last one is not taken: %v", append(done, x), l)
		}
	}
}

// P17.5: those of All are Serial, and none of them clashes when it is checked by those ahead of it.
func TestAllIsSerial(t *testing.T) {
	r := rand.New(rand.NewSource(3))
	for range 5000 {
		l := valid.All(someTxns(r, 9, 6))
		serial(t, l, len(l), 0, true)
		if again := valid.All(l); !slices.EqualFunc(l, again, same) {
			t.Fatalf("All(%v) = %v", l, again)
		}
	}
}

// P17.6: whoever clashes does so still when more is committed, or it read and wrote more; the object is no greater one.
func TestClashStays(t *testing.T) {
	r := rand.New(rand.NewSource(4))
	clashed := 0
	for range 10000 {
		done, x := someTxns(r, 5, 6), someTxn(r, 6)
		oop, err := valid.Check(done, x)
		if err != api.ErrClash {
			continue
		}
		clashed++
		done = append(done, someTxns(r, 3, 6)...)
		r.Shuffle(len(done), func(i, j int) { done[i], done[j] = done[j], done[i] })
		x.Reads, x.Writes = append(x.Reads, someOops(r, 3)...), append(x.Writes, someOops(r, 3)...)
		if n, err := valid.Check(done, x); err != api.ErrClash || n > oop {
			t.Fatalf("Check(%v, %v) = %d %v, ahead of that %d", done, x, n, err, oop)
		}
	}
	if clashed < 500 {
		t.Error("only so many clashed:", clashed)
	}
}

// P7: long lists are gone through in a time that goes with their length.
func TestLong(t *testing.T) {
	const many = 20000
	var done []valid.Txn
	h := valid.New()
	for i := range int64(many) {
		done = append(done, txn(i, i+1, oops(i, i+1), oops(i, i%7)))
		add(t, h, done[i], api.OK)
	}
	serial(t, done, many, 0, true)
	if l := valid.All(done); len(l) != many {
		t.Error("All takes", len(l))
	}
	for i := range int64(many - 1) {
		asks(t, h, since(i, oops(many-1), nil), many-1, api.ErrClash)
	}
	h.Forget(many / 2)
	length(t, h, many/2)
}
