package dag_test

import (
	"slices"
	"strconv"
	"strings"
	"testing"

	"stemma/api"
	"stemma/dag"
	"stemma/hashes"
)

// garden is a small graph: a; b and c upon a; d upon b and c; e upon c; f alone; and w, that waits.
type garden struct {
	g                   *dag.Graph
	a, b, c, d, e, f, w made
}

// plant tells the garden.
func plant(t *testing.T) garden {
	t.Helper()
	var p garden
	p.a = write(t, "ann", 1, 3)           // 1 to 3
	p.b = write(t, "ann", 2, 1, p.a)      // 4
	p.c = write(t, "bob", 1, 4, p.a)      // 4 to 7
	p.d = write(t, "ann", 3, 2, p.b, p.c) // 8 and 9
	p.e = write(t, "bob", 2, 0, p.c)      // none
	p.f = write(t, "eve", 1, 1)           // 1
	p.w = write(t, "eve", 2, 1, p.f, noted(t, "far", "far", 1, 1))
	p.g = graphOf(t, p.a, p.b, p.c, p.d, p.e, p.f, p.w)
	return p
}

// expectOf asks what a call tells of changes, and of them in another order, each twice.
func expectOf(t *testing.T, g *dag.Graph, what string, of, want []made) {
	t.Helper()
	l := deps(of...)
	got, e := lists()[what](g, l)
	expectAnswer(t, what+short(l), got, e, deps(want...))
	slices.Reverse(l)
	l = append(l, l...)
	got, e = lists()[what](g, l)
	expectAnswer(t, what+short(l), got, e, deps(want...))
}

// P10.3: pasts that are worked out by hand, of hashes in any order, some of them twice.
func TestPast(t *testing.T) {
	p := plant(t)
	for _, x := range []struct{ heads, want []made }{
		{nil, nil},
		{[]made{p.a}, []made{p.a}},
		{[]made{p.b}, []made{p.a, p.b}},
		{[]made{p.d}, []made{p.a, p.b, p.c, p.d}},
		{[]made{p.e}, []made{p.a, p.c, p.e}},
		{[]made{p.f}, []made{p.f}},
		{[]made{p.b, p.c}, []made{p.a, p.b, p.c}},
		{[]made{p.e, p.b}, []made{p.a, p.b, p.c, p.e}},
		{[]made{p.d, p.a}, []made{p.a, p.b, p.c, p.d}},
		{[]made{p.f, p.e, p.d}, []made{p.a, p.b, p.c, p.d, p.e, p.f}},
	} {
		expectOf(t, p.g, "Past", x.heads, x.want)
	}
}

// P10.3: those that are in the past of another one are left out, and each is told once.
func TestReduce(t *testing.T) {
	p := plant(t)
	for _, x := range []struct{ l, want []made }{
		{nil, nil},
		{[]made{p.a}, []made{p.a}},
		{[]made{p.d}, []made{p.d}},
		{[]made{p.a, p.b}, []made{p.b}},
		{[]made{p.b, p.c}, []made{p.b, p.c}},
		{[]made{p.a, p.d}, []made{p.d}},
		{[]made{p.d, p.e}, []made{p.d, p.e}},
		{[]made{p.d, p.c}, []made{p.d}},
		{[]made{p.e, p.c, p.b}, []made{p.e, p.b}},
		{[]made{p.f, p.a}, []made{p.f, p.a}},
		{[]made{p.a, p.b, p.c, p.d, p.e, p.f}, []made{p.d, p.e, p.f}},
	} {
		expectOf(t, p.g, "Reduce", x.l, x.want)
	}
}

// P10.3: changes without operations end where they start, and where those below them end.
func TestReduceOfEmptyChanges(t *testing.T) {
	chain := []made{write(t, "a", 1, 0)}
	for i := range 9 {
		chain = append(chain, write(t, "a", i+2, 0, chain[i]))
	}
	g := graphOf(t, chain...)
	for i := range chain {
		reduced, e := g.Reduce(deps(chain[:i+1]...))
		expectAnswer(t, "Reduce", reduced, e, deps(chain[i]))
		for j := range i {
			reduced, e := g.Reduce(deps(chain[i], chain[j]))
			expectAnswer(t, "Reduce of two", reduced, e, deps(chain[i]))
			bad := write(t, "b", 1, 0, chain[i], chain[j])
			expectRefused(t, g, bad.b, api.Hash{}, api.ErrDeps)
		}
	}
	expectNext(t, g, "a", deps(chain...), 11, 1)
}

// P10.3: the next numbers, worked out by hand.
func TestNext(t *testing.T) {
	p := plant(t)
	long := strings.Repeat("n", api.MaxName)
	for _, x := range []struct {
		author     string
		heads      []made
		seq, start int
	}{
		{"ann", nil, 1, 1},
		{"eve", nil, 1, 1},
		{"ann", []made{p.a}, 2, 4},
		{"bob", []made{p.a}, 1, 4},
		{"ann", []made{p.b}, 3, 5},
		{"ann", []made{p.c}, 2, 8},
		{"bob", []made{p.c}, 2, 8},
		{"ann", []made{p.b, p.c}, 3, 8},
		{"bob", []made{p.b, p.c}, 2, 8},
		{"ann", []made{p.d}, 4, 10},
		{"bob", []made{p.d}, 2, 10},
		{"eve", []made{p.d}, 1, 10},
		{"bob", []made{p.e}, 3, 8},
		{"ann", []made{p.e}, 2, 8},
		{"ann", []made{p.f}, 1, 2},
		{"eve", []made{p.f}, 2, 2},
		{"eve", []made{p.f, p.d, p.e}, 2, 10},
		{"bob", []made{p.f, p.d, p.e}, 3, 10},
		{"ann", []made{p.a, p.f}, 2, 4},
		{long, []made{p.d}, 1, 10},
		{"Ann", []made{p.d}, 1, 10},
	} {
		expectNext(t, p.g, x.author, deps(x.heads...), x.seq, x.start)
		heads := deps(x.heads...)
		slices.Reverse(heads)
		expectNext(t, p.g, x.author, append(heads, heads...), x.seq, x.start)
	}
}

// P10.3: an author's greatest Seq counts, wherever in the past it stands; two of one author may stand beside one another.
func TestNextOfOneAuthorBesideItself(t *testing.T) {
	root := write(t, "a", 1, 1)
	left := noted(t, "left", "a", 2, 1, root)
	right := noted(t, "right", "a", 2, 5, root)
	deep := write(t, "a", 3, 1, left)
	deeper := write(t, "a", 4, 1, deep)
	over := write(t, "b", 1, 1, deeper)
	g := graphOf(t, root, left, right, deep, deeper, over)
	expectNext(t, g, "a", deps(left, right), 3, 7)
	expectNext(t, g, "a", deps(right), 3, 7)
	expectNext(t, g, "a", deps(over, right), 5, 7)
	expectNext(t, g, "a", deps(over), 5, 6)
	expectNext(t, g, "b", deps(over, right), 2, 7)
	expectTaken(t, g, lay(t, api.Change{Author: "a", Seq: 5, Start: 7, Deps: deps(over, right)}))
}

// P10.3: each kind of operation takes the numbers that op.Size says.
func TestNextStartByOperations(t *testing.T) {
	m := lay(t, api.Change{Author: "a", Seq: 1, Start: 1, Ops: []api.Op{
		{Kind: api.OpPut, Name: "k", Text: "value"},
		{Kind: api.OpDel, Name: "k"},
		{Kind: api.OpAdd, Name: "n", By: 9},
		{Kind: api.OpIns, Name: "t", Text: "abcd"},
		{Kind: api.OpCut, Name: "t", By: 3},
	}})
	expectNext(t, graphOf(t, m), "a", deps(m), 2, 9)
}

// P10.3: hashes that are not there, those that wait among them.
func TestUnknown(t *testing.T) {
	p := plant(t)
	absent := noted(t, "far", "far", 1, 1)
	for _, l := range [][]api.Hash{
		{{}}, {{1}}, {p.w.h}, {absent.h}, {p.a.h, {}}, {{}, p.a.h}, {p.a.h, p.b.h, p.w.h}, {p.w.h, p.a.h}, {absent.h, absent.h},
	} {
		for what, ask := range lists() {
			if got, e := ask(p.g, l); len(got) != 0 || e != api.ErrUnknown {
				t.Errorf("%s%s = %s, %d", what, short(l), short(got), int(e))
			}
		}
		if seq, start, e := p.g.Next("ann", l); seq != 0 || start != 0 || e != api.ErrUnknown {
			t.Errorf("Next(ann, %s) = %d, %d, %d", short(l), seq, start, int(e))
		}
	}
}

// P10.3: authors that are no names, which comes ahead of hashes that are not there.
func TestNextOfNoName(t *testing.T) {
	p := plant(t)
	for _, author := range []string{"", "-", "a b", "a\n", "ä", strings.Repeat("n", api.MaxName+1)} {
		for _, heads := range [][]api.Hash{nil, deps(p.a), {{}}, {p.w.h}} {
			if seq, start, e := p.g.Next(author, heads); seq != 0 || start != 0 || e != api.ErrName {
				t.Errorf("Next(%q, %s) = %d, %d, %d", author, short(heads), seq, start, int(e))
			}
		}
	}
}

// P10.3: the least of those whose Deps have been taken is taken, not the least of a layer, and not the one that became free first.
func TestOrder(t *testing.T) {
	roots := ranked(write(t, "r", 1, 1), write(t, "s", 1, 1), write(t, "u", 1, 1))
	low, mid, high := roots[0], roots[1], roots[2]
	upon := func(dep made, author string, wanted func(h api.Hash) bool) made {
		return seek(t, func(note string) made { return noted(t, note, author, 1, 1, dep) }, wanted)
	}
	below := func(m made) func(h api.Hash) bool {
		return func(h api.Hash) bool { return hashes.Rising([]api.Hash{h, m.h}) }
	}
	early := upon(low, "early", below(mid))  // goes ahead of mid, though mid was free first
	tiny := upon(high, "tiny", below(low))   // is the least of all, but waits for high
	late := upon(early, "late", below(high)) // goes ahead of high
	g := graphOf(t, high, mid, low, tiny, early, late)
	want := []api.Hash{low.h, early.h}
	if hashes.Rising([]api.Hash{late.h, mid.h}) {
		want = append(want, late.h, mid.h)
	} else {
		want = append(want, mid.h, late.h)
	}
	want = append(want, high.h, tiny.h)
	order, e := g.Order(g.Heads())
	expectAnswer(t, "Order", order, e, want)
	order, e = g.Order(deps(tiny))
	expectAnswer(t, "Order of tiny", order, e, []api.Hash{high.h, tiny.h})
	order, e = g.Order(deps(tiny, low))
	expectAnswer(t, "Order of tiny and low", order, e, []api.Hash{low.h, high.h, tiny.h})
	order, e = g.Order([]api.Hash{late.h, low.h, late.h})
	expectAnswer(t, "Order of late", order, e, []api.Hash{low.h, early.h, late.h})
}

// P10.3: changes that are all alone are in the order of their hashes.
func TestOrderOfRoots(t *testing.T) {
	var l []made
	for i := range 50 {
		l = append(l, write(t, "r"+strconv.Itoa(i), 1, 1))
	}
	g := graphOf(t, l...)
	order, e := g.Order(g.Heads())
	expectAnswer(t, "Order", order, e, deps(l...))
}

// P10.4: what is done with the one does nothing to the other.
func TestFork(t *testing.T) {
	p := plant(t)
	ahead := told(p.g)
	fork := p.g.Fork()
	if told(fork) != ahead {
		t.Fatal("a fork is not as its graph")
	}
	far := noted(t, "far", "far", 1, 1)
	expectTaken(t, fork, far) // and w is there, which waited
	if !fork.Has(p.w.h) || p.g.Has(p.w.h) || p.g.Has(far.h) || told(p.g) != ahead {
		t.Error("what the fork took shows in its graph")
	}
	behind := told(fork)
	more := write(t, "ann", 4, 1, p.d)
	waits := write(t, "x", 1, 1, noted(t, "farther", "far", 1, 1))
	expectTaken(t, p.g, more)
	expectTaken(t, p.g, waits)
	if told(fork) != behind || fork.Has(more.h) {
		t.Error("what the graph took shows in its fork")
	}
	expectTaken(t, p.g, far)
	expectTaken(t, fork, more)
	expectTaken(t, fork, waits)
	if told(fork) != told(p.g) {
		t.Error("the same changes, taken by both, make them unlike")
	}
}

// P10.4: a fork of nothing, and a fork of a fork.
func TestForkOfFork(t *testing.T) {
	g := dag.New()
	fork := g.Fork()
	a := write(t, "a", 1, 1)
	expectTaken(t, fork, a)
	twin := fork.Fork()
	b := write(t, "a", 2, 1, a)
	expectTaken(t, twin, b)
	if g.Len() != 0 || fork.Len() != 1 || twin.Len() != 2 {
		t.Errorf("Len = %d, %d, %d", g.Len(), fork.Len(), twin.Len())
	}
	if dag.New().Len() != 0 || dag.New() == dag.New() {
		t.Error("New is not new")
	}
}
