package scope_test

import (
	"maps"
	"math/rand"
	"slices"
	"strconv"
	"strings"
	"testing"

	"lapidary/api"
	"lapidary/scope"
	"lapidary/tree"
)

// bound is what a name is while a source is being written: how many units were begun where it came to be, and whether it may be set.
type bound struct {
	kind, begun, index int
	set                bool
}

// grower writes a source at random, and knows what each name is that it writes.
type grower struct {
	strings.Builder
	*rand.Rand
	known map[string]bound
	begun int
	wild  int // one of so many names can not be
	body  int // where the statements begin
	want  []scope.Use
	fault int // the place of the first name that can not be, or -1
}

func newGrower(r *rand.Rand, slots []string, wild int) *grower {
	g := &grower{Rand: r, known: map[string]bound{}, wild: wild, fault: -1}
	for _, name := range strings.Fields("A B Root Object") {
		g.known[name] = bound{kind: scope.Global}
	}
	for i := len(slots) - 1; i >= 0; i-- { // the first one that bears a name counts
		g.known[slots[i]] = bound{kind: scope.Slot, index: i, set: true}
	}
	for i, name := range strings.Fields("nil false true") {
		g.known[name] = bound{kind: scope.Const, index: i}
	}
	g.known["self"] = bound{kind: scope.Self}
	delete(g.known, "super") // a slot of that name is never meant
	return g
}

func (g *grower) write(texts ...string) {
	for _, s := range texts {
		g.WriteString(s)
	}
}

func (g *grower) one(texts ...string) string { return texts[g.Intn(len(texts))] }

func (g *grower) isWild() bool { return g.Intn(g.wild) == 0 }

func (g *grower) fail(at int) {
	if g.fault < 0 {
		g.fault = at
	}
}

// names takes names for a unit that stands at a place.
func (g *grower) names(count, at int) []string {
	out := strings.Fields("a b c d e f s t u A B")
	g.Shuffle(len(out), func(i, k int) { out[i], out[k] = out[k], out[i] })
	out = out[:count]
	if count > 1 && g.isWild() {
		out[count-1] = out[g.Intn(count-1)]
		g.fail(at)
	}
	if count > 0 && g.isWild() {
		out[g.Intn(count)] = g.one("self", "super", "nil", "false", "true")
		g.fail(at)
	}
	return out
}

// unit writes a unit's temps and statements; meanwhile its names are known.
func (g *grower) unit(names []string, args, size int) {
	before := maps.Clone(g.known)
	g.begun++
	for i, name := range names {
		g.known[name] = bound{kind: scope.Temp, begun: g.begun, index: i, set: i >= args}
	}
	if temps := names[args:]; len(temps) > 0 {
		g.write("| ", strings.Join(temps, " "), " | ")
	}
	if g.begun == 1 {
		g.body = g.Len()
	}
	g.statements(g.Intn(4), size)
	g.begun--
	g.known = before
}

func (g *grower) statements(count, size int) {
	for i := range count {
		if i > 0 {
			g.write(". ")
		}
		if i == count-1 && g.Intn(3) == 0 {
			g.write("^")
		}
		g.expression(size)
	}
}

func (g *grower) source() { g.unit(g.names(g.Intn(4), 0), 0, 4) }

func (g *grower) method() {
	names := g.names(g.Intn(5), 0)
	args := g.Intn(len(names) + 1)
	if args == 0 {
		g.write("foo ")
	}
	for i, name := range names[:args] {
		g.write("k", strconv.Itoa(i), ": ", name, " ")
	}
	g.unit(names, args, 4)
}

func (g *grower) block(size int) {
	names := g.names(g.Intn(5), g.Len())
	args := g.Intn(len(names) + 1)
	g.write("[")
	for _, name := range names[:args] {
		g.write(":", name, " ")
	}
	if args > 0 {
		g.write("| ")
	}
	g.unit(names, args, size)
	g.write("]")
}

func (g *grower) expression(size int) {
	if size > 0 && g.Intn(3) == 0 {
		g.set()
		g.expression(size - 1)
		return
	}
	messages := g.Intn(4)
	if messages > 0 && g.Intn(4) == 0 {
		g.want = append(g.want, scope.Use{At: g.Len(), Name: "super", Kind: scope.Super})
		g.write("super")
	} else {
		g.operand(size)
	}
	for i := range messages {
		if i > 0 {
			g.write(";")
		}
		g.message(size - 1)
	}
}

func (g *grower) message(size int) {
	switch g.Intn(3) {
	case 0:
		g.write(" foo")
	case 1:
		g.write(" + ")
		g.argument(size)
	default:
		g.write(" at: ")
		g.argument(size)
		g.write(" put: ")
		g.argument(size)
	}
}

func (g *grower) argument(size int) {
	if !g.isWild() {
		g.operand(size)
		return
	}
	g.fail(g.Len())
	g.write("super")
}

func (g *grower) operand(size int) {
	kind := g.Intn(6)
	if size <= 0 {
		kind = 2 + g.Intn(4)
	}
	switch kind {
	case 0:
		g.write("(")
		g.expression(size - 1)
		g.write(")")
	case 1:
		g.block(size - 1)
	case 2:
		g.write(g.one("3", "'a'", "#foo", "#(a b: self super zz)"))
	default:
		g.read()
	}
}

func (g *grower) read() {
	if g.isWild() {
		g.fail(g.Len())
		g.write(g.one("zz", "root", "foo", "selfs"))
		return
	}
	g.name(false)
}

func (g *grower) set() {
	if g.isWild() {
		g.fail(g.Len())
		g.write(g.one(append(g.sorted(func(b bound) bool { return !b.set }), "zz", "super")...))
	} else if len(g.sorted(func(b bound) bool { return b.set })) > 0 {
		g.name(true)
	} else {
		return
	}
	g.write(" := ")
}

// sorted are the known names of some kind, sorted, so that chance alone takes one.
func (g *grower) sorted(is func(bound) bool) []string {
	var out []string
	for _, name := range slices.Sorted(maps.Keys(g.known)) {
		if is(g.known[name]) {
			out = append(out, name)
		}
	}
	return out
}

func (g *grower) name(set bool) {
	name := g.one(g.sorted(func(b bound) bool { return b.set || !set })...)
	b := g.known[name]
	x := scope.Use{At: g.Len(), Name: name, Kind: b.kind, Index: b.index, Write: set}
	if b.kind == scope.Temp {
		x.Depth = g.begun - b.begun
	}
	g.want = append(g.want, x)
	g.write(name)
}

// slotsOf are slots of an object, some of which bear the same name, or one that means something else.
func slotsOf(r *rand.Rand) []string {
	slots := strings.Fields("a s t s u B nil self a super")
	return slots[:r.Intn(len(slots)+1)]
}

// grown calls f with sources that are sources, till it has had so many.
func grown(t *testing.T, seed int64, wild, count int, f func(g *grower, n tree.Node, slots []string)) {
	t.Helper()
	r := rand.New(rand.NewSource(seed))
	for count > 0 {
		slots := slotsOf(r)
		g := newGrower(r, slots, wild)
		read := reads(tree.Parse)
		if r.Intn(2) == 0 {
			g.source()
		} else {
			read = tree.Method
			g.method()
		}
		if g.Len() <= api.MaxText {
			f(g, treeOf(t, read, g.String()), slots)
			count--
		}
	}
}

// P9.1: what the names of any source are, or where the first one is that can not be.
func TestGrown(t *testing.T) {
	faults, uses := 0, 0
	grown(t, 91, 40, 20000, func(g *grower, n tree.Node, slots []string) {
		want, place, none := dump(g.want), 0, api.OK
		if g.fault >= 0 {
			want, place, none = "", g.fault, api.ErrName
			faults++
		}
		got, at, err := scope.Resolve(n, slots)
		if dump(got) != want || at != place || err != none {
			t.Fatalf("%q, slots %q: %s %d %v, want %s %d %v", g.String(), slots, dump(got), at, err, want, place, none)
		}
		uses += len(got)
	})
	if faults < 2000 || faults > 18000 || uses < 20000 {
		t.Error("too few of a kind:", faults, "faults", uses, "uses")
	}
}

// P9.2: slots that nobody uses, behind the others, change nothing.
func TestMoreSlots(t *testing.T) {
	grown(t, 92, 1<<30, 4000, func(g *grower, n tree.Node, slots []string) {
		global := map[string]int{}
		for _, x := range g.want {
			if x.Kind == scope.Global {
				global[x.Name] = 1
			}
		}
		more := slices.Clone(slots)
		for _, name := range strings.Fields("unused a b c d e f s t u A B self super nil") {
			if global[name] == 0 {
				more = append(more, name)
			}
		}
		got, at, err := scope.Resolve(n, more)
		if dump(got) != dump(g.want) || at != 0 || err != api.OK {
			t.Fatalf("%q, slots %q: %s %d %v, want %s", g.String(), more, dump(got), at, err, dump(g.want))
		}
	})
}

// P9.2: units that stand beside it change no name.
func TestMoreUnits(t *testing.T) {
	const beside = "[:a :s | | b A | [:self_ | b := a. [:B :b | b]]]. "
	grown(t, 93, 1<<30, 4000, func(g *grower, _ tree.Node, slots []string) {
		s := g.String()[:g.body] + beside + g.String()[g.body:]
		n, _, err := tree.Parse(s)
		if err != api.OK {
			n = treeOf(t, tree.Method, s)
		}
		var want []scope.Use
		for _, x := range g.want {
			x.At += len(beside)
			want = append(want, x)
		}
		got, at, err := scope.Resolve(n, slots)
		if err != api.OK || at != 0 || len(got) < 3 || dump(got[3:]) != dump(want) {
			t.Fatalf("%q, slots %q: %s %d %v, want three and %s", s, slots, dump(got), at, err, dump(want))
		}
	})
}
