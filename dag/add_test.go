package dag_test

import (
	"slices"
	"strconv"
	"testing"

	"stemma/api"
	"stemma/change"
	"stemma/dag"
	"stemma/hashes"
	"stemma/sha"
)

// ranked tells changes by their hashes, rising.
func ranked(l ...made) []made {
	sorted := slices.Clone(l)
	slices.SortFunc(sorted, func(a, b made) int {
		if sha.Less(a.h, b.h) {
			return -1
		}
		return 1
	})
	return sorted
}

// P10.1: bytes that are no change.
func TestAddForm(t *testing.T) {
	good := write(t, "a", 1, 3)
	g := dag.New()
	for i := range good.b {
		expectRefused(t, g, good.b[:i], api.Hash{}, api.ErrForm)
	}
	expectRefused(t, g, append(slices.Clone(good.b), 0), api.Hash{}, api.ErrForm)
	expectRefused(t, g, append([]byte{2}, good.b[1:]...), api.Hash{}, api.ErrForm)
	expectRefused(t, g, make([]byte, api.MaxChange+1), api.Hash{}, api.ErrForm)
	expectTaken(t, g, good)
	expectRefused(t, g, good.b[1:], api.Hash{}, api.ErrForm)
}

// P10.1: a change's hash is the sum of its bytes, whatever it holds.
func TestAddLongest(t *testing.T) {
	c := api.Change{Author: "a", Seq: 1, Start: 1, Note: string(make([]byte, api.MaxValue))}
	for range 62 {
		c.Ops = append(c.Ops, typed(api.MaxValue)...)
	}
	long := lay(t, c)
	g := graphOf(t, long)
	expectBytes(t, g, long, true)
	expectNext(t, g, "a", deps(long), 2, 1+62*api.MaxValue)
}

// P10.1: what is there or waits is told to be there, ahead of any other error.
func TestAddThere(t *testing.T) {
	a := write(t, "a", 1, 1)
	b := write(t, "a", 2, 1, a)
	c := write(t, "a", 3, 1, b)
	g := graphOf(t, a, c)
	expectRefused(t, g, a.b, a.h, api.ErrThere)
	expectRefused(t, g, c.b, c.h, api.ErrThere)
	expectTaken(t, g, b)
	for _, m := range []made{a, b, c} {
		expectRefused(t, g, m.b, m.h, api.ErrThere)
	}
}

// P10.1: each way not to fit, and which comes first.
func TestAddThatDoesNotFit(t *testing.T) {
	root := write(t, "a", 1, 3)      // 1 to 3
	one := write(t, "a", 2, 2, root) // 4 and 5
	two := write(t, "b", 1, 4, root) // 4 to 7
	three := write(t, "c", 1, 0, two)
	g := graphOf(t, root, one, two, three)
	for _, x := range []struct {
		what       string
		author     string
		seq, start int
		deps       []api.Hash
		want       api.Errno
	}{
		{"a dep of a dep", "a", 3, 6, deps(root, one), api.ErrDeps},
		{"a dep of a dep of a dep", "c", 2, 8, deps(root, three), api.ErrDeps},
		{"one of three in the past of another", "c", 2, 8, deps(one, two, three), api.ErrDeps},
		{"wrong deps, seq and start", "a", 9, 9, deps(root, one), api.ErrDeps},
		{"a seq too low", "a", 1, 6, deps(one), api.ErrSeq},
		{"a seq as the last one's", "a", 2, 6, deps(one), api.ErrSeq},
		{"a seq too high", "a", 4, 6, deps(one), api.ErrSeq},
		{"a seq of an author that is not in the past", "b", 2, 6, deps(one), api.ErrSeq},
		{"a seq upon nothing", "a", 2, 1, nil, api.ErrSeq},
		{"a seq that forgets what lies deep", "a", 1, 8, deps(three), api.ErrSeq},
		{"wrong seq and start", "a", 9, 9, deps(one), api.ErrSeq},
		{"a start too low", "a", 3, 5, deps(one), api.ErrStart},
		{"a start too high", "a", 3, 7, deps(one), api.ErrStart},
		{"a start by the lesser dep", "a", 3, 6, deps(one, two), api.ErrStart},
		{"a start by an empty dep alone", "d", 1, 1, deps(three), api.ErrStart},
		{"a start upon nothing", "z", 1, 2, nil, api.ErrStart},
		{"the greatest start", "z", 1, api.MaxNumber, nil, api.ErrStart},
		{"the greatest seq", "z", api.MaxNumber, 1, nil, api.ErrSeq},
	} {
		m := lay(t, api.Change{Author: x.author, Seq: x.seq, Start: x.start, Deps: x.deps})
		t.Run(x.what, func(t *testing.T) {
			expectRefused(t, g, m.b, api.Hash{}, x.want)
			if g.Has(m.h) {
				t.Error("it is there")
			}
		})
	}
	for _, m := range []made{
		lay(t, api.Change{Author: "a", Seq: 3, Start: 6, Deps: deps(one)}),
		lay(t, api.Change{Author: "a", Seq: 3, Start: 8, Deps: deps(one, two)}),
		lay(t, api.Change{Author: "a", Seq: 3, Start: 8, Deps: deps(one, three)}),
		lay(t, api.Change{Author: "a", Seq: 2, Start: 8, Deps: deps(three)}),
		lay(t, api.Change{Author: "z", Seq: 1, Start: 1}),
	} {
		expectTaken(t, g, m)
		if !g.Has(m.h) {
			t.Errorf("%v is not there", m.c)
		}
	}
}

// P10.1: as many Deps as a change may have, and one of them in the past of another one, wherever it stands.
func TestAddUponMany(t *testing.T) {
	root := write(t, "root", 1, 1)
	var leaves []made
	for i := range api.MaxDeps {
		leaves = append(leaves, write(t, "leaf"+strconv.Itoa(i), 1, i%3, root))
	}
	g := graphOf(t, append([]made{root}, leaves...)...)
	expectList(t, "Heads", g.Heads(), deps(leaves...))
	top := write(t, "top", 1, 1, leaves...)
	for _, leaf := range leaves {
		rest := slices.DeleteFunc(slices.Clone(leaves), func(m made) bool { return m.h == leaf.h })
		bad := write(t, "top", 1, 1, append(rest, root)...)
		expectRefused(t, g, bad.b, api.Hash{}, api.ErrDeps)
	}
	expectTaken(t, g, top)
	expectList(t, "Heads", g.Heads(), deps(top))
}

// P10.1: a whole chain that waits comes there at once, whatever the order of the hashes.
func TestChainThatWaits(t *testing.T) {
	chain := []made{write(t, "a", 1, 1)}
	for i := range api.MaxPending {
		chain = append(chain, write(t, "a", i+2, i%2, chain[i]))
	}
	g := dag.New()
	for i := len(chain) - 1; i > 0; i-- {
		expectTaken(t, g, chain[i])
		expectList(t, "Missing", g.Missing(), deps(chain[i-1]))
		if g.Len() != 0 || len(g.Waiting()) != len(chain)-i {
			t.Fatalf("behind %d: %d are there, %d wait", i, g.Len(), len(g.Waiting()))
		}
	}
	expectTaken(t, g, chain[0])
	if g.Len() != len(chain) || len(g.Waiting()) != 0 {
		t.Errorf("%d are there, %d wait", g.Len(), len(g.Waiting()))
	}
	expectList(t, "Heads", g.Heads(), deps(chain[len(chain)-1]))
}

// P10.1: a change that waited and does not fit is forgotten; what is upon it goes on waiting, and asks for it.
func TestMisfitsThatWaitedAreForgotten(t *testing.T) {
	root := write(t, "a", 1, 2)
	for what, bad := range map[string]made{
		"seq":   lay(t, api.Change{Author: "a", Seq: 3, Start: 3, Deps: deps(root)}),
		"start": lay(t, api.Change{Author: "b", Seq: 1, Start: 2, Deps: deps(root)}),
	} {
		good := write(t, "c", 1, 1, root)
		upon := write(t, "d", 1, 1, bad)
		g := graphOf(t, bad, good, upon)
		expectList(t, "Waiting", g.Waiting(), deps(bad, good, upon))
		expectList(t, "Missing", g.Missing(), deps(root))
		expectTaken(t, g, root)
		expectList(t, "Waiting behind a wrong "+what, g.Waiting(), deps(upon))
		expectList(t, "Missing behind a wrong "+what, g.Missing(), deps(bad))
		expectList(t, "Heads behind a wrong "+what, g.Heads(), deps(good))
		if g.Has(bad.h) || g.Len() != 2 {
			t.Errorf("wrong %s: %d are there, the wrong one among them: %t", what, g.Len(), g.Has(bad.h))
		}
		want := map[string]api.Errno{"seq": api.ErrSeq, "start": api.ErrStart}[what]
		expectRefused(t, g, bad.b, api.Hash{}, want) // forgotten: it is asked anew
	}
}

// P10.1: Deps that may not be show only when they are all there.
func TestWrongDepsThatWaitedAreForgotten(t *testing.T) {
	root := write(t, "a", 1, 2)
	mid := write(t, "a", 2, 2, root)
	bad := write(t, "b", 1, 1, root, mid)
	g := graphOf(t, bad, root)
	expectList(t, "Waiting", g.Waiting(), deps(bad))
	expectTaken(t, g, mid)
	expectList(t, "Waiting", g.Waiting(), nil)
	expectList(t, "Heads", g.Heads(), deps(mid))
	expectRefused(t, g, bad.b, api.Hash{}, api.ErrDeps)
}

// P10.1: a refused change brings nothing there of what waits for it.
func TestRefusedBringsNothing(t *testing.T) {
	root := write(t, "a", 1, 2)
	bad := lay(t, api.Change{Author: "a", Seq: 2, Start: 4, Deps: deps(root)})
	upon := write(t, "b", 1, 1, bad)
	g := graphOf(t, root, upon)
	expectRefused(t, g, bad.b, api.Hash{}, api.ErrStart)
	expectList(t, "Waiting", g.Waiting(), deps(upon))
	expectList(t, "Missing", g.Missing(), deps(bad))
}

// P10.1: at most MaxPending changes wait.
func TestPending(t *testing.T) {
	root, other := write(t, "root", 1, 1), write(t, "other", 1, 1)
	g := dag.New()
	var waiting []made
	for i := range api.MaxPending {
		m := write(t, "w"+strconv.Itoa(i), 1, 1, root)
		expectTaken(t, g, m)
		waiting = append(waiting, m)
	}
	expectList(t, "Waiting", g.Waiting(), deps(waiting...))
	expectList(t, "Missing", g.Missing(), deps(root))
	one := write(t, "one", 1, 1, root)
	expectRefused(t, g, one.b, api.Hash{}, api.ErrPending)
	upon := write(t, "upon", 1, 1, waiting[0]) // a Dep that waits is not there
	expectRefused(t, g, upon.b, api.Hash{}, api.ErrPending)
	misfit := lay(t, api.Change{Author: "m", Seq: 7, Start: 9, Deps: deps(root, other)})
	expectRefused(t, g, misfit.b, api.Hash{}, api.ErrPending)
	expectRefused(t, g, waiting[63].b, waiting[63].h, api.ErrThere)
	expectRefused(t, g, waiting[63].b[1:], api.Hash{}, api.ErrForm)
	expectTaken(t, g, other) // it need not wait
	expectRefused(t, g, one.b, api.Hash{}, api.ErrPending)
	expectTaken(t, g, root)
	expectList(t, "Waiting", g.Waiting(), nil)
	expectList(t, "Heads", g.Heads(), deps(append(waiting, other)...))
	expectTaken(t, g, one)
	expectTaken(t, g, upon)
	if g.Len() != api.MaxPending+4 {
		t.Errorf("Len = %d", g.Len())
	}
}

// filled tells a graph of n changes, each alone.
func filled(t *testing.T, n int) *dag.Graph {
	t.Helper()
	g := dag.New()
	for i := range n {
		expectTaken(t, g, write(t, "f"+strconv.Itoa(i), 1, 0))
	}
	if g.Len() != n {
		t.Fatalf("Len = %d, want %d", g.Len(), n)
	}
	return g
}

// P10.1: at most MaxChanges changes are there; that comes ahead of what does not fit, and behind all else.
func TestFull(t *testing.T) {
	first := write(t, "f0", 1, 0)
	second := write(t, "f1", 1, 0)
	g := filled(t, api.MaxChanges-1)
	misfit := lay(t, api.Change{Author: "m", Seq: 2, Start: 2, Deps: deps(first)})
	expectRefused(t, g, misfit.b, api.Hash{}, api.ErrSeq)
	last := write(t, "last", 1, 0, first, second)
	expectTaken(t, g, last)
	for _, m := range []made{
		write(t, "more", 1, 1),
		write(t, "f0", 2, 1, first),
		misfit,
		lay(t, api.Change{Author: "m", Seq: 1, Start: 1, Deps: deps(first, last)}),
		lay(t, api.Change{Author: "m", Seq: 1, Start: 5}),
	} {
		expectRefused(t, g, m.b, api.Hash{}, api.ErrFull)
	}
	expectRefused(t, g, last.b, last.h, api.ErrThere)
	expectRefused(t, g, last.b[1:], api.Hash{}, api.ErrForm)
	waits := lay(t, api.Change{Author: "m", Seq: 1, Start: 1, Deps: []api.Hash{{1}}})
	expectTaken(t, g, waits)
	expectList(t, "Waiting", g.Waiting(), deps(waits))
	if g.Len() != api.MaxChanges || g.Has(waits.h) {
		t.Errorf("Len = %d", g.Len())
	}
}

// P10.1: where there is no room for all that waited, those of the least hashes come there, and all that had their Deps are forgotten.
func TestLeastOfThoseThatWaited(t *testing.T) {
	key := write(t, "key", 1, 1)
	var l []made
	for i := range 6 {
		l = append(l, write(t, "w"+strconv.Itoa(i), 1, 1, key))
	}
	l = ranked(l...)
	for room := range 7 {
		g := filled(t, api.MaxChanges-1-room)
		for _, m := range l {
			expectTaken(t, g, m)
		}
		far := write(t, "far", 1, 1, l[5])
		expectTaken(t, g, far)
		expectTaken(t, g, key)
		for i, m := range l {
			if g.Has(m.h) != (i < room) {
				t.Errorf("room for %d: the one with %d ahead is there: %t", room, i, g.Has(m.h))
			}
		}
		if room == 6 { // all that far needs is there, but no room
			expectList(t, "Waiting", g.Waiting(), nil)
		} else {
			expectList(t, "Waiting", g.Waiting(), deps(far))
			expectList(t, "Missing", g.Missing(), deps(l[5]))
		}
		if g.Len() != api.MaxChanges {
			t.Errorf("room for %d: Len = %d", room, g.Len())
		}
	}
}

// P10.1: the least is asked for anew behind each one that comes there, so that one that is upon it may go ahead of others.
func TestLeastIsAskedAnew(t *testing.T) {
	key := write(t, "key", 1, 1)
	pair := ranked(write(t, "one", 1, 1, key), write(t, "two", 1, 1, key))
	for _, ahead := range []bool{true, false} {
		upon := seek(t, func(note string) made { return noted(t, note, "upon", 1, 1, pair[0]) },
			func(h api.Hash) bool { return sha.Less(h, pair[1].h) == ahead })
		g := filled(t, api.MaxChanges-3)
		for _, m := range []made{upon, pair[1], pair[0], key} {
			expectTaken(t, g, m)
		}
		if !g.Has(pair[0].h) || g.Has(upon.h) != ahead || g.Has(pair[1].h) == ahead {
			t.Errorf("ahead %t: there are %t, %t, %t", ahead, g.Has(pair[0].h), g.Has(upon.h), g.Has(pair[1].h))
		}
		expectList(t, "Waiting", g.Waiting(), nil)
	}
}

// P10.1: one that does not fit takes no room, though its hash is the least.
func TestMisfitTakesNoRoom(t *testing.T) {
	key := write(t, "key", 1, 1)
	good := write(t, "good", 1, 1, key)
	bad := seek(t, func(note string) made {
		return lay(t, api.Change{Author: "bad", Seq: 2, Start: 2, Deps: deps(key), Note: note})
	}, func(h api.Hash) bool { return sha.Less(h, good.h) })
	g := filled(t, api.MaxChanges-2)
	for _, m := range []made{bad, good, key} {
		expectTaken(t, g, m)
	}
	if !g.Has(good.h) || g.Has(bad.h) || len(g.Waiting()) != 0 {
		t.Errorf("there are %t, %t; waiting %s", g.Has(good.h), g.Has(bad.h), short(g.Waiting()))
	}
}

// P10.1: the zero hash is no change's here, so a Dep of it waits for ever.
func TestZeroHashAsDep(t *testing.T) {
	m := lay(t, api.Change{Author: "a", Seq: 1, Start: 1, Deps: []api.Hash{{}}})
	g := graphOf(t, m)
	expectList(t, "Missing", g.Missing(), []api.Hash{{}})
	if h := change.Hash(m.c); !hashes.Has(g.Waiting(), h) {
		t.Error("it does not wait")
	}
}
