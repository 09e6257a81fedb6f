package patch_test

import (
	"slices"
	"strconv"
	"strings"
	"testing"

	"stemma/api"
	"stemma/dag"
	"stemma/patch"
)

// many tells how many changes a long graph has here.
func many() int {
	if testing.Short() {
		return 300
	}
	return api.MaxChanges
}

// P13.1, P13.4: along a line of as many changes as a graph has.
func TestLongLine(t *testing.T) {
	g := dag.New()
	var heads []api.Hash
	var all [][]api.Hash
	for i := range many() {
		heads = upon(write(t, g, "ann", heads, ins("t", i*7%(i+1), strings.Repeat("x", 1+i%9)), cut("t", i%50, 1), add("n", 1), put("k"+strconv.Itoa(i%300), strconv.Itoa(i))))
		all = append(all, heads)
	}
	last := all[len(all)-1]
	for _, a := range [][]api.Hash{nil, all[0], all[many()/2], last} {
		expectApply(t, at(t, g, a), between(t, g, a, last), saying(at(t, g, last)))
		expectApply(t, at(t, g, last), between(t, g, last, a), saying(at(t, g, a)))
	}
	if l := between(t, g, nil, last); len(l) != 300+1+1 || l[300].By != many() || len(l[301].Put) != len(l[301].From) {
		t.Errorf("%d patches", len(l))
	}
	expectBetween(t, g, last, last)
}

// P13.1, P13.4: two sides of which each has as many stretches as can be.
func TestManyStretches(t *testing.T) {
	g, typed := dag.New(), []api.Op{}
	for range 60 {
		typed = append(typed, ins("t", 0, strings.Repeat("ab", api.MaxValue/2)))
	}
	root := upon(write(t, g, "root", nil, typed...))
	heads, steps := root, many()/40
	for i := range steps {
		var ops []api.Op
		for k := range api.MaxOps {
			ops = append(ops, cut("t", i*api.MaxOps+k, 1)) // every other one goes
		}
		heads = upon(write(t, g, "ann", heads, ops...))
	}
	n := steps * api.MaxOps
	there, back := between(t, g, root, heads), between(t, g, heads, root)
	if len(there) != n || len(back) != n {
		t.Fatalf("%d and %d patches, want %d", len(there), len(back), n)
	}
	for i := range n {
		if there[i].At != i || there[i].Cut != 1 || back[i].At != 2*i || back[i].Put != "a" || !slices.Equal(back[i].From, root) {
			t.Fatalf("%s, %s", telling(there[i:i+1]), telling(back[i:i+1]))
		}
	}
	expectApply(t, at(t, g, root), there, saying(at(t, g, heads)))
	expectApply(t, at(t, g, heads), back, saying(at(t, g, root)))
}

// P13.2: many patches to one long text, from its beginning on, from its end on, and to and fro.
func TestManyPatches(t *testing.T) {
	d := api.Doc{Texts: []api.Text{{Name: "t", Chars: strings.Repeat("-", 20000)}}}
	var rising, falling, crossed []api.Patch
	for i := range 10000 {
		rising = append(rising, text("t", 3*i, 1, "ab"))
		falling = append(falling, text("t", 2*(9999-i), 1, "ab"))
		crossed = append(crossed, text("t", i%2*i, 0, "x"), text("t", i%2*i, 1, ""))
	}
	want := `t"` + strings.Repeat("ab-", 10000) + `"`
	expectApply(t, d, rising, want)
	expectApply(t, d, falling, want)
	expectApply(t, d, crossed, saying(d))
}

// P13.2: many names.
func TestManyNames(t *testing.T) {
	var l, away []api.Patch
	for i := range 20000 {
		name := "n" + strconv.Itoa(i*7919%20000)
		l = append(l, key(name, nil, "v"), count(name, i), text(name, 0, 0, "x"))
		away = append(away, gone(name), noCount(name), text(name, 0, 1, ""))
	}
	d, e := patch.Apply(api.Doc{}, l)
	if e != api.OK || len(d.Entries) != 20000 || len(d.Counts) != 20000 || len(d.Texts) != 20000 || patch.Check(d) != api.OK {
		t.Fatalf("Apply: %d", int(e))
	}
	expectApply(t, d, away, "")
}
