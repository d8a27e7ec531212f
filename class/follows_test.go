package class_test

import (
	"maps"
	"math/rand"
	"slices"
	"strconv"
	"strings"
	"testing"

	"lapidary/api"
	"lapidary/class"
	"lapidary/view"
)

// plain is a class as the chapter says it, without a view.
type plain struct {
	oop, super int64
	own        []string
	methods    map[string]string
}

// plains are all classes that were made, and Object.
type plains map[int64]plain

func (p plains) chain(c int64) []int64 {
	var out []int64
	for c != 0 && len(out) < 30 {
		out = append(out, c)
		c = p[c].super
	}
	return out
}

func (p plains) names(c int64) []string {
	var out []string
	for _, k := range p.chain(c) {
		out = append(slices.Clone(p[k].own), out...)
	}
	return out
}

func (p plains) find(c int64, selector string) (string, int64) {
	for _, k := range p.chain(c) {
		if source, there := p[k].methods[selector]; there {
			return source, k
		}
	}
	return "", 0
}

var selectors = []string{"foo", "+", "at:", "at:put:"}

// someMethod is a source of a selector, that sets or tells a name.
func someMethod(r *rand.Rand, selector, name string) string {
	pattern := map[string]string{"foo": "foo", "+": "+ p", "at:": "at: p", "at:put:": "at: p put: q"}[selector]
	return pattern + " ^" + name + " := " + strconv.Itoa(r.Intn(1000))
}

func (p plains) agree(t *testing.T, v *view.View) {
	t.Helper()
	for c := range p {
		chain(t, v, c, p.chain(c)...)
		names(t, v, c, p.names(c)...)
		for _, s := range selectors {
			source, who := p.find(c, s)
			find(t, v, c, s, source, who)
		}
	}
}

// makeOne makes a class with some slots, of which some stand above it already.
func (p plains) makeOne(t *testing.T, r *rand.Rand, v *view.View, super int64) {
	t.Helper()
	own := letters(r.Intn(60), r.Intn(9))
	all := append(p.names(super), own...)
	want := api.OK
	slices.Sort(all)
	if len(slices.Compact(slices.Clone(all))) != len(all) {
		want = api.ErrName
	} else if len(all) > 30 {
		want = api.ErrSize
	}
	c, err := class.Make(v, super, "P", own)
	if err != want {
		t.Fatalf("Make below %q with %q: %v, want %v", p.names(super), own, err, want)
	}
	if err == api.OK {
		p[c] = plain{c, super, own, map[string]string{}}
	}
}

// define lets a class have a method, of a name that it has or has not.
func (p plains) define(t *testing.T, r *rand.Rand, v *view.View, c int64) {
	t.Helper()
	selector := selectors[r.Intn(len(selectors))]
	name := letters(r.Intn(60), 1)[0]
	if own := p.names(c); len(own) > 0 && r.Intn(3) > 0 {
		name = own[r.Intn(len(own))]
	}
	source := someMethod(r, selector, name)
	if !slices.Contains(p.names(c), name) {
		if _, at, err := class.Define(v, c, source); err != api.ErrName || at != strings.Index(source, name) {
			t.Fatalf("Define of %q, with the names %q: %d %v", source, p.names(c), at, err)
		}
		return
	}
	defines(t, v, c, source, selector)
	p[c].methods[selector] = source
}

// P13.2 to P13.7: classes that are made and given methods at random are found as a plain model has them: what was defined in its class and in all below it that have none of their own; an object has as many slots as its class has names.
func TestFollows(t *testing.T) {
	for seed := range int64(60) {
		r := rand.New(rand.NewSource(seed))
		v := world(t, nil)
		p := plains{1: {oop: 1, methods: map[string]string{}}}
		for range 60 {
			all := slices.Sorted(maps.Keys(p))
			c := all[len(all)-1-r.Intn(min(len(all), 5))]
			switch r.Intn(3) {
			case 0:
				p.makeOne(t, r, v, c)
			case 1:
				p.define(t, r, v, c)
			default:
				oop, err := class.New(v, c, 0)
				if err != api.OK || class.Of(v, ref(oop)) != c {
					t.Fatal("New", oop, err)
				}
				same(t, v, oop, slots(c, make([]api.Val, len(p.names(c)))...))
			}
		}
		p.agree(t, v)
		if t.Failed() {
			t.Fatal("with the seed", seed)
		}
	}
}

// P7: any bytes as names, slots, selectors and sources, in views of any objects, are answered; a Define that is refused changes nothing.
func TestAnything(t *testing.T) {
	r := rand.New(rand.NewSource(7))
	const signs = "abAZ_09: '\x00\xff^"
	word := func() string {
		b := make([]byte, r.Intn(6))
		for i := range b {
			b[i] = signs[r.Intn(len(signs))]
		}
		return string(b)
	}
	for range 300 {
		more := map[int64]api.Obj{}
		for oop := int64(1); oop < 30; oop++ {
			o := text(1+r.Int63n(12), word())
			if r.Intn(2) == 0 {
				o.Class = 2
			}
			for range r.Intn(5) {
				o.Slots = append(o.Slots, ref(1+r.Int63n(48))) // the last ones of these are not there
			}
			more[oop] = o
		}
		v := world(t, more)
		for range 60 {
			c := r.Int63n(34) - 1
			class.Find(v, c, word())
			class.Names(v, c)
			if oop, err := class.Make(v, c, word(), []string{word(), word()}); (oop == 0) != (err != api.OK) {
				t.Error("Make", oop, err)
			}
			is := class.Is(v, c) // it may be its own methods, and no class behind that
			ahead := v.Copy()
			if _, _, err := class.Define(v, c, word()); err != api.OK {
				asAhead(t, v, ahead)
			} else if !is {
				t.Error("Define of no class", c)
			}
			if oop, err := class.New(v, c, r.Intn(3)-1); (oop == 0) != (err != api.OK) {
				t.Error("New", oop, err)
			}
		}
	}
}
