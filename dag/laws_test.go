package dag_test

import (
	"slices"
	"strconv"
	"testing"

	"stemma/api"
	"stemma/dag"
	"stemma/hashes"
)

// expectAsPlain asks that a graph's looks are those of the plain one.
func expectAsPlain(t *testing.T, g *dag.Graph, p *plain) {
	t.Helper()
	expectList(t, "Heads", g.Heads(), p.heads())
	expectList(t, "Waiting", g.Waiting(), deps(p.waiting...))
	expectList(t, "Missing", g.Missing(), p.missing())
	if g.Len() != len(p.there) {
		t.Fatalf("Len = %d, want %d", g.Len(), len(p.there))
	}
	for _, m := range p.there {
		if !g.Has(m.h) {
			t.Fatalf("%v is not there", m.c)
		}
	}
	for _, m := range p.waiting {
		if g.Has(m.h) {
			t.Fatalf("%v is there, though it waits", m.c)
		}
	}
}

// expectPastsAsPlain asks that what a graph tells of some hashes is what the plain one tells.
func expectPastsAsPlain(t *testing.T, g *dag.Graph, p *plain, l []api.Hash) {
	t.Helper()
	past, e := g.Past(l)
	expectAnswer(t, "Past"+short(l), past, e, p.past(l))
	order, e := g.Order(l)
	expectAnswer(t, "Order"+short(l), order, e, p.order(l))
	reduced, e := g.Reduce(l)
	expectAnswer(t, "Reduce"+short(l), reduced, e, p.reduce(l))
	for _, author := range []string{"ann", "bob", "eve", "nobody"} {
		seq, start := p.next(author, l)
		expectNext(t, g, author, l, seq, start)
	}
}

// P10.1 to P10.3: rows of changes, right and wrong ones, in any order, held against the chapter told plainly.
func TestHeldAgainstPlain(t *testing.T) {
	rows := 60
	if testing.Short() {
		rows = 10
	}
	for seed := range rows {
		r := row(seed + 1)
		source := &plain{most: api.MaxChanges, pending: api.MaxPending}
		var all []made
		for range 40 {
			m := lay(t, r.change(source, 4))
			source.add(m)
			all = append(all, m)
			if r.below(4) == 0 { // one upon a wrong one, or upon one that waits
				all = append(all, lay(t, api.Change{Author: "eve", Seq: 1 + r.below(3), Start: endOf(m.c), Deps: deps(m)}))
			}
		}
		g, p := dag.New(), &plain{most: api.MaxChanges, pending: api.MaxPending}
		for _, m := range shuffled(&r, append(all, all[:20]...)) {
			want := p.add(m)
			h, e := g.Add(m.b)
			hash := m.h
			if want != api.OK && want != api.ErrThere {
				hash = api.Hash{}
			}
			if e != want || h != hash {
				t.Fatalf("Add(%v) = %x, %d, want %x, %d", m.c, h, int(e), hash, int(want))
			}
			expectAsPlain(t, g, p)
			expectPastsAsPlain(t, g, p, r.some(p.there, 4))
		}
		if t.Failed() {
			t.Fatalf("row %d", seed)
		}
	}
}

// P10.3: histories that grow, with all that is told of any of their hashes.
func TestHistoriesHeldAgainstPlain(t *testing.T) {
	for seed := range 12 {
		r := row(seed + 100)
		history := r.history(70)
		g := graphOf(t, history...)
		p := &plain{there: history}
		expectPastsAsPlain(t, g, p, g.Heads())
		expectPastsAsPlain(t, g, p, deps(history...))
		for range 20 {
			expectPastsAsPlain(t, g, p, r.some(history, 6))
		}
		if t.Failed() {
			t.Fatalf("row %d", seed)
		}
	}
}

// permute hands all orders of a list to see.
func permute(l []made, see func(l []made)) {
	var step func(n int)
	step = func(n int) {
		if n == len(l) {
			see(l)
			return
		}
		for i := n; i < len(l); i++ {
			l[n], l[i] = l[i], l[n]
			step(n + 1)
			l[n], l[i] = l[i], l[n]
		}
	}
	step(0)
}

// P10.5: the same changes in all orders make the same graph.
func TestAllOrders(t *testing.T) {
	p := plant(t)
	l := []made{p.a, p.b, p.c, p.d, p.e, p.f}
	want := told(graphOf(t, l...))
	many := 0
	permute(l, func(l []made) {
		many++
		if got := told(graphOf(t, l...)); got != want {
			t.Fatalf("order %s makes\n%.400q\nwant\n%.400q", short(deps(l...)), got, want)
		}
	})
	if many != 720 {
		t.Errorf("%d orders", many)
	}
}

// P10.5: longer histories, in any order in which not too many have to wait.
func TestManyOrders(t *testing.T) {
	for seed := range 20 {
		r := row(seed + 1000)
		history := r.history(api.MaxPending)
		want := told(graphOf(t, history...))
		for range 20 {
			if got := told(graphOf(t, shuffled(&r, history)...)); got != want {
				t.Fatalf("row %d makes\n%.400q\nwant\n%.400q", seed, got, want)
			}
		}
	}
}

// P10.5: what is there has its Deps there, heads are in no other's past, and all is in their past.
func TestHeadsHoldAll(t *testing.T) {
	for seed := range 20 {
		r := row(seed + 5000)
		history := shuffled(&r, r.history(api.MaxPending))
		g := dag.New()
		for _, m := range history {
			expectTaken(t, g, m)
			heads := g.Heads()
			reduced, e := g.Reduce(heads)
			expectAnswer(t, "Reduce of the heads", reduced, e, heads)
			past, e := g.Past(heads)
			if e != api.OK || len(past) != g.Len() {
				t.Fatalf("the heads' past has %d, %d are there", len(past), g.Len())
			}
			for _, h := range past {
				n, _ := find(history, h)
				if !g.Has(h) || len(hashes.Minus(n.c.Deps, past)) != 0 {
					t.Fatalf("a Dep of %v is not there", n.c)
				}
			}
		}
	}
}

// Rule 1: the deepest graph; every call ends, and tells all of it.
func TestDeepest(t *testing.T) {
	chain := []made{write(t, "a0", 1, 1)}
	for i := 1; i < api.MaxChanges; i++ {
		chain = append(chain, write(t, "a"+strconv.Itoa(i), 1, 1, chain[i-1])) // each of another author, so that each asks for the whole past
	}
	g := graphOf(t, chain...)
	last := deps(chain[len(chain)-1])
	expectList(t, "Heads", g.Heads(), last)
	past, e := g.Past(last)
	expectAnswer(t, "Past", past, e, deps(chain...))
	order, e := g.Order(last)
	want := make([]api.Hash, len(chain))
	for i, m := range chain {
		want[i] = m.h
	}
	expectAnswer(t, "Order", order, e, want)
	reduced, e := g.Reduce(want)
	expectAnswer(t, "Reduce", reduced, e, last)
	expectNext(t, g, "a0", last, 2, api.MaxChanges+1)
}

// Rule 1: graphs in which there are far more ways down than changes.
func TestManyWaysDown(t *testing.T) {
	var all, layer []made
	for depth := range 40 {
		var next []made
		for i := range api.MaxDeps {
			next = append(next, write(t, "a"+strconv.Itoa(i), depth+1, 1, layer...))
		}
		all = append(all, next...)
		layer = next
	}
	g := graphOf(t, all...)
	heads := g.Heads()
	expectList(t, "Heads", heads, deps(layer...))
	past, e := g.Past(heads)
	expectAnswer(t, "Past", past, e, deps(all...))
	order, e := g.Order(heads)
	var want []api.Hash
	for layer := range slices.Chunk(all, api.MaxDeps) {
		want = append(want, deps(layer...)...)
	}
	expectAnswer(t, "Order", order, e, want)
	reduced, e := g.Reduce(past)
	expectAnswer(t, "Reduce", reduced, e, heads)
	expectNext(t, g, "a3", heads, 41, 41)
	expectNext(t, g, "new", heads, 1, 41)
}
