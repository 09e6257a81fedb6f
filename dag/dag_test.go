package dag_test

import (
	"slices"
	"strconv"
	"strings"
	"testing"

	"stemma/api"
	"stemma/change"
	"stemma/dag"
	"stemma/hashes"
	"stemma/sha"
)

// made is a change with its bytes and its hash.
type made struct {
	c api.Change
	b []byte
	h api.Hash
}

// lay tells a change with its bytes and its hash.
func lay(t *testing.T, c api.Change) made {
	t.Helper()
	b, e := change.Put(c)
	if e != api.OK {
		t.Fatalf("Put(%.200v): %d", c, int(e))
	}
	return made{c, b, sha.Sum(b)}
}

// typed tells the operations that take size numbers: one text, or none.
func typed(size int) []api.Op {
	if size == 0 {
		return nil
	}
	return []api.Op{{Kind: api.OpIns, Name: "t", Text: strings.Repeat("x", size)}}
}

// deps tells the hashes of changes, rising.
func deps(l ...made) []api.Hash {
	var list []api.Hash
	for _, m := range l {
		list = append(list, m.h)
	}
	return hashes.Sort(list)
}

// endOf tells the number behind a change's last one.
func endOf(c api.Change) int { return c.Start + change.Size(c) }

// write tells a change of the author that takes size numbers, upon others; its Seq is handed in, its Start is the greatest end of the others.
func write(t *testing.T, author string, seq, size int, upon ...made) made {
	t.Helper()
	return noted(t, "", author, seq, size, upon...)
}

// noted tells what write tells, with a note.
func noted(t *testing.T, note, author string, seq, size int, upon ...made) made {
	t.Helper()
	start := 1
	for _, m := range upon {
		start = max(start, endOf(m.c))
	}
	return lay(t, api.Change{Author: author, Seq: seq, Start: start, Deps: deps(upon...), Note: note, Ops: typed(size)})
}

// seek tells the first of the changes that make tells of the notes 0, 1, 2 and so on whose hash is as wanted.
func seek(t *testing.T, make func(note string) made, wanted func(h api.Hash) bool) made {
	t.Helper()
	for i := range 100000 {
		if m := make(strconv.Itoa(i)); wanted(m.h) {
			return m
		}
	}
	t.Fatal("no such change")
	return made{}
}

// short tells the first digits of hashes.
func short(l []api.Hash) string {
	var words []string
	for _, h := range l {
		words = append(words, sha.Hex(h)[:8])
	}
	return "(" + strings.Join(words, " ") + ")"
}

// expectList asks for a list of hashes.
func expectList(t *testing.T, what string, got, want []api.Hash) {
	t.Helper()
	if !slices.Equal(got, want) {
		t.Errorf("%s = %s, want %s", what, short(got), short(want))
	}
}

// expectAnswer asks for a list of hashes, without an error.
func expectAnswer(t *testing.T, what string, got []api.Hash, e api.Errno, want []api.Hash) {
	t.Helper()
	if e != api.OK {
		t.Errorf("%s: %d", what, int(e))
	}
	expectList(t, what, got, want)
}

// expectNext asks for the next numbers.
func expectNext(t *testing.T, g *dag.Graph, author string, heads []api.Hash, seq, start int) {
	t.Helper()
	if s, n, e := g.Next(author, heads); s != seq || n != start || e != api.OK {
		t.Errorf("Next(%s, %s) = %d, %d, %d, want %d, %d, 0", author, short(heads), s, n, int(e), seq, start)
	}
}

// told tells all that a graph tells of itself, as a text.
func told(g *dag.Graph) string {
	order, e := g.Order(g.Heads())
	lines := []string{
		"len " + strconv.Itoa(g.Len()),
		"heads " + hashes.Text(g.Heads()),
		"waiting " + hashes.Text(g.Waiting()),
		"missing " + hashes.Text(g.Missing()),
		"order " + strconv.Itoa(int(e)) + " " + hashes.Text(order),
	}
	for _, h := range order {
		b, e := g.Bytes(h)
		lines = append(lines, "bytes "+strconv.Itoa(int(e))+" "+string(b))
	}
	return strings.Join(lines, "\n")
}

// expectTaken asks that Add takes a change.
func expectTaken(t *testing.T, g *dag.Graph, m made) {
	t.Helper()
	if h, e := g.Add(m.b); h != m.h || e != api.OK {
		t.Fatalf("Add(%.200v) = %x, %d, want %x, 0", m.c, h, int(e), m.h)
	}
}

// expectRefused asks that Add refuses bytes, and nothing changes.
func expectRefused(t *testing.T, g *dag.Graph, b []byte, hash api.Hash, want api.Errno) {
	t.Helper()
	ahead := told(g)
	if h, e := g.Add(b); h != hash || e != want {
		t.Errorf("Add(%.80x) = %x, %d, want %x, %d", b, h, int(e), hash, int(want))
	}
	if behind := told(g); behind != ahead {
		t.Errorf("a refused Add changed the graph from\n%.500q\nto\n%.500q", ahead, behind)
	}
}

// graphOf tells a graph of changes that it takes, one behind the other.
func graphOf(t *testing.T, l ...made) *dag.Graph {
	t.Helper()
	g := dag.New()
	for _, m := range l {
		expectTaken(t, g, m)
	}
	return g
}

// The chapter's first example.
func TestExampleOfNothing(t *testing.T) {
	g := dag.New()
	expectList(t, "Heads of nothing", g.Heads(), nil)
	expectList(t, "Waiting of nothing", g.Waiting(), nil)
	expectList(t, "Missing of nothing", g.Missing(), nil)
	for _, none := range [][]api.Hash{nil, {}} {
		past, e := g.Past(none)
		expectAnswer(t, "Past(none)", past, e, nil)
		order, e := g.Order(none)
		expectAnswer(t, "Order(none)", order, e, nil)
		reduced, e := g.Reduce(none)
		expectAnswer(t, "Reduce(none)", reduced, e, nil)
		expectNext(t, g, "a", none, 1, 1)
	}
	expectRefused(t, g, nil, api.Hash{}, api.ErrForm)
	expectRefused(t, g, []byte{}, api.Hash{}, api.ErrForm)
	if past, e := g.Past([]api.Hash{{}}); len(past) != 0 || e != api.ErrUnknown {
		t.Errorf("Past(the zero hash) = %s, %d", short(past), int(e))
	}
	if g.Len() != 0 || g.Has(api.Hash{}) {
		t.Errorf("of nothing Len is %d, and Has of the zero hash %t", g.Len(), g.Has(api.Hash{}))
	}
}

// The chapter's second example.
func TestExampleOfWaiting(t *testing.T) {
	b := write(t, "a", 1, 2)
	c := write(t, "a", 2, 1, b)
	g := graphOf(t, c)
	expectList(t, "Missing", g.Missing(), deps(b))
	expectList(t, "Waiting", g.Waiting(), deps(c))
	expectList(t, "Heads", g.Heads(), nil)
	if g.Has(c.h) || g.Len() != 0 {
		t.Errorf("what waits is there: %t, %d", g.Has(c.h), g.Len())
	}
	expectTaken(t, g, b)
	expectList(t, "Missing", g.Missing(), nil)
	expectList(t, "Waiting", g.Waiting(), nil)
	expectList(t, "Heads", g.Heads(), deps(c))
	if !g.Has(b.h) || !g.Has(c.h) || g.Len() != 2 {
		t.Errorf("not both are there: %t, %t, %d", g.Has(b.h), g.Has(c.h), g.Len())
	}
	expectRefused(t, g, b.b, b.h, api.ErrThere)
	expectRefused(t, g, c.b, c.h, api.ErrThere)
}

// Rule 1: what a graph that is nil answers.
func TestNil(t *testing.T) {
	var g *dag.Graph
	good := write(t, "a", 1, 1)
	for _, b := range [][]byte{nil, {1}, good.b} {
		if h, e := g.Add(b); h != (api.Hash{}) || e != api.ErrNil {
			t.Errorf("Add = %x, %d", h, int(e))
		}
	}
	if g.Has(good.h) || g.Has(api.Hash{}) || g.Len() != 0 || g.Fork() != nil {
		t.Error("a graph that is nil has something, or a fork")
	}
	expectList(t, "Heads", g.Heads(), nil)
	expectList(t, "Waiting", g.Waiting(), nil)
	expectList(t, "Missing", g.Missing(), nil)
	if b, e := g.Bytes(good.h); len(b) != 0 || e != api.ErrUnknown {
		t.Errorf("Bytes = %x, %d", b, int(e))
	}
	for _, heads := range [][]api.Hash{nil, {good.h}} {
		for what, ask := range lists() {
			if l, e := ask(g, heads); len(l) != 0 || e != api.ErrNil {
				t.Errorf("%s = %s, %d", what, short(l), int(e))
			}
		}
		if seq, start, e := g.Next("a", heads); seq != 0 || start != 0 || e != api.ErrNil {
			t.Errorf("Next = %d, %d, %d", seq, start, int(e))
		}
		if seq, start, e := g.Next("", heads); seq != 0 || start != 0 || e != api.ErrName {
			t.Errorf("Next of no name = %d, %d, %d", seq, start, int(e))
		}
	}
}

// lists are the calls that answer lists of what is handed in.
func lists() map[string]func(g *dag.Graph, l []api.Hash) ([]api.Hash, api.Errno) {
	return map[string]func(g *dag.Graph, l []api.Hash) ([]api.Hash, api.Errno){
		"Past":   (*dag.Graph).Past,
		"Order":  (*dag.Graph).Order,
		"Reduce": (*dag.Graph).Reduce,
	}
}

// P10.2: the looks at a small graph, worked out by hand: a; b and c upon a; d upon b and c; e alone; w upon d and two that are not there; v upon w.
func TestLooks(t *testing.T) {
	a := write(t, "ann", 1, 3)
	b := write(t, "ann", 2, 1, a)
	c := write(t, "bob", 1, 2, a)
	d := write(t, "ann", 3, 0, b, c)
	e := write(t, "eve", 1, 5)
	far, farther := write(t, "far", 1, 9), noted(t, "n", "far", 1, 9)
	w := write(t, "bob", 2, 1, d, far, farther)
	v := write(t, "bob", 3, 1, w)
	g := dag.New()
	for _, step := range []struct {
		what                           string
		add                            made
		heads, waiting, missing, there []api.Hash
	}{
		{"a", a, deps(a), nil, nil, deps(a)},
		{"b", b, deps(b), nil, nil, deps(a, b)},
		{"v", v, deps(b), deps(v), deps(w), deps(a, b)},
		{"e", e, deps(b, e), deps(v), deps(w), deps(a, b, e)},
		{"c", c, deps(b, c, e), deps(v), deps(w), deps(a, b, c, e)},
		{"w", w, deps(b, c, e), deps(v, w), deps(d, far, farther), deps(a, b, c, e)},
		{"d", d, deps(d, e), deps(v, w), deps(far, farther), deps(a, b, c, d, e)},
		{"far", far, deps(d, e, far), deps(v, w), deps(farther), deps(a, b, c, d, e, far)},
		{"farther", farther, deps(e, v), nil, nil, deps(a, b, c, d, e, far, farther, w, v)},
	} {
		expectTaken(t, g, step.add)
		expectList(t, "Heads behind "+step.what, g.Heads(), step.heads)
		expectList(t, "Waiting behind "+step.what, g.Waiting(), step.waiting)
		expectList(t, "Missing behind "+step.what, g.Missing(), step.missing)
		if g.Len() != len(step.there) {
			t.Errorf("Len behind %s = %d, want %d", step.what, g.Len(), len(step.there))
		}
		for _, m := range []made{a, b, c, d, e, far, farther, w, v} {
			there := hashes.Has(step.there, m.h)
			if g.Has(m.h) != there {
				t.Errorf("Has of %s %d behind %s = %t", m.c.Author, m.c.Seq, step.what, !there)
			}
			expectBytes(t, g, m, there)
		}
	}
	if g.Has(api.Hash{}) || g.Has(api.Hash{1}) {
		t.Error("Has of a hash of no change")
	}
}

// expectBytes asks for a change's bytes, if it is there.
func expectBytes(t *testing.T, g *dag.Graph, m made, there bool) {
	t.Helper()
	b, e := g.Bytes(m.h)
	if there && (string(b) != string(m.b) || e != api.OK) {
		t.Errorf("Bytes of %s %d = %.40x, %d", m.c.Author, m.c.Seq, b, int(e))
	}
	if !there && (len(b) != 0 || e != api.ErrUnknown) {
		t.Errorf("Bytes of %s %d that is not there = %.40x, %d", m.c.Author, m.c.Seq, b, int(e))
	}
}
