package blame_test

import (
	"slices"
	"strconv"
	"strings"
	"testing"

	"stemma/api"
	"stemma/blame"
	"stemma/change"
	"stemma/dag"
	"stemma/patch"
	"stemma/view"
)

// list is a row of numbers that looks like one without a rule, and is the same at each run.
type list uint64

// below tells the row's next number, from 0 to n - 1.
func (l *list) below(n int) int {
	*l = *l*6364136223846793005 + 1442695040888963407
	return int(uint64(*l)>>33) % n
}

// op tells an operation of the i-th change, which puts its own number and types its own byte alone, so that what is said tells who said it.
func (l *list) op(i int) api.Op {
	name, pos := []string{"B", "a", "a.b"}[l.below(3)], l.below(9)
	if l.below(15) == 0 {
		pos = api.MaxNumber
	}
	switch l.below(9) {
	case 0, 1:
		return put(name, strconv.Itoa(i))
	case 2:
		return del(name)
	case 3:
		return add(name, l.below(5)-2)
	case 4, 5:
		return cut(name, pos, 1+l.below(4))
	}
	return ins(name, pos, strings.Repeat(string([]byte{byte(i)}), 1+l.below(4)))
}

// some tells up to so many of the hashes, one of the last of them mostly.
func (l *list) some(from []api.Hash, most int) []api.Hash {
	var some []api.Hash
	for range l.below(most + 1) {
		if len(from) > 0 {
			reach := min(len(from), []int{3, 6, 1000}[l.below(3)])
			some = append(some, from[len(from)-1-l.below(reach)])
		}
	}
	return some
}

// graph tells a graph of at most 256 changes by few authors, and their hashes as they came.
func (l *list) graph(t *testing.T, many, most int) (*dag.Graph, []api.Hash) {
	t.Helper()
	g := dag.New()
	var all []api.Hash
	for i := range many {
		deps, e := g.Reduce(l.some(all, 3))
		if e != api.OK {
			t.Fatalf("Reduce: %d", int(e))
		}
		var ops []api.Op
		for range l.below(most + 1) {
			ops = append(ops, l.op(i))
		}
		author := []string{"bob", "ann", "Cid", "dan"}[l.below(4)]
		all = append(all, noted(t, g, strconv.Itoa(i), author, deps, ops...))
	}
	return g, all
}

// graphs tells how many graphs without a rule are gone through.
func graphs() int {
	if testing.Short() {
		return 40
	}
	return 300
}

// at tells the document at some heads.
func at(t *testing.T, g *dag.Graph, heads []api.Hash) api.Doc {
	t.Helper()
	d, e := view.At(g, heads)
	if e != api.OK {
		t.Fatalf("At: %d", int(e))
	}
	return d
}

// signed tells the marks of a document whose values and characters tell their changes, which came as all tells.
func signed(t *testing.T, d api.Doc, all []api.Hash) []api.Mark {
	t.Helper()
	var l []api.Mark
	for _, k := range d.Entries {
		for place, value := range k.Values {
			i, err := strconv.Atoi(value)
			if err != nil {
				t.Fatal(err)
			}
			l = append(l, api.Mark{Kind: api.PatchKey, Name: k.Key, At: place, By: all[i]})
		}
	}
	for _, x := range d.Texts {
		for place := range len(x.Chars) {
			l = append(l, api.Mark{Kind: api.PatchText, Name: x.Name, At: place, By: all[x.Chars[place]]})
		}
	}
	return l
}

// changeOf tells a change that is there.
func changeOf(t *testing.T, g *dag.Graph, h api.Hash) api.Change {
	t.Helper()
	b, e := g.Bytes(h)
	if e != api.OK {
		t.Fatalf("Bytes: %d", int(e))
	}
	c, e := change.Get(b)
	if e != api.OK {
		t.Fatalf("Get: %d", int(e))
	}
	return c
}

// plainShares is Shares as the chapter tells it: for each author of the past, all marks are gone through.
func plainShares(t *testing.T, g *dag.Graph, heads []api.Hash, marks []api.Mark) []blame.Share {
	t.Helper()
	past, _ := g.Past(heads)
	var l []blame.Share
	for _, author := range []string{"Cid", "ann", "bob", "dan"} {
		s := blame.Share{Author: author}
		if !slices.ContainsFunc(past, func(h api.Hash) bool { return changeOf(t, g, h).Author == author }) {
			continue
		}
		for _, m := range marks {
			if changeOf(t, g, m.By).Author != author {
				continue
			}
			if m.Kind == api.PatchKey {
				s.Values++
			}
			if m.Kind == api.PatchText {
				s.Chars++
			}
		}
		l = append(l, s)
	}
	return l
}

// P14.1, P14.2: graphs without a rule, in which what is said tells who said it, at all their heads and at some of them.
func TestHeldAgainstSigned(t *testing.T) {
	met := map[string]int{}
	for seed := range graphs() {
		l := list(seed + 1)
		g, all := l.graph(t, 4+seed%30, 1+seed%6)
		for k := range 8 {
			heads := l.some(all, 4)
			if k == 0 {
				heads = g.Heads()
			}
			marks := signed(t, at(t, g, heads), all)
			expectOf(t, g, heads, marks)
			want := plainShares(t, g, heads, marks)
			expectShares(t, g, heads, sharing(want))
			for _, m := range marks {
				met["mark "+strconv.Itoa(m.Kind)]++
				met["place "+strconv.Itoa(m.Kind)+" "+strconv.FormatBool(m.At > 0)]++
			}
			for _, s := range want {
				met["share "+strconv.FormatBool(s.Values > 0)+" "+strconv.FormatBool(s.Chars > 0)]++
			}
		}
		if t.Failed() {
			t.Fatalf("graph %d", seed)
		}
	}
	for _, what := range []string{"mark 1", "mark 3", "place 1 true", "place 3 true", "share true true", "share true false", "share false true", "share false false"} {
		if met[what] < graphs()/4 {
			t.Errorf("%s: met %d times", what, met[what])
		}
	}
}

// P14.3: there is a mark for each value and each character, once, in its place, and the shares together are as many.
func TestAMarkForEach(t *testing.T) {
	for seed := range graphs() {
		l := list(seed + 1000)
		g, all := l.graph(t, 24, 5)
		heads := l.some(all, 3)
		d := at(t, g, heads)
		met := map[api.Mark]int{} // without By
		values, chars := 0, 0
		for _, k := range d.Entries {
			values += len(k.Values)
			for place := range k.Values {
				met[api.Mark{Kind: api.PatchKey, Name: k.Key, At: place}]--
			}
		}
		for _, x := range d.Texts {
			chars += len(x.Chars)
			for place := range len(x.Chars) {
				met[api.Mark{Kind: api.PatchText, Name: x.Name, At: place}]--
			}
		}
		for _, m := range of(t, g, heads) {
			m.By = api.Hash{}
			met[m]++
		}
		for m, n := range met {
			if n != 0 {
				t.Errorf("graph %d: %s: %d too many", seed, telling([]api.Mark{m}), n)
			}
		}
		for _, s := range shares(t, g, heads) {
			values -= s.Values
			chars -= s.Chars
		}
		if values != 0 || chars != 0 {
			t.Errorf("graph %d: %d values and %d characters are nobody's", seed, values, chars)
		}
	}
}

// P14.3: who is blamed put it: the change is of the past, and has an operation that put that value, or that character, there.
func TestTheBlamedPutIt(t *testing.T) {
	for seed := range graphs() {
		l := list(seed + 2000)
		g, all := l.graph(t, 24, 5)
		heads := l.some(all, 3)
		past, _ := g.Past(heads)
		said := map[string][]string{}
		d := at(t, g, heads)
		for _, k := range d.Entries {
			said["1"+k.Key] = k.Values
		}
		for _, x := range d.Texts {
			for i := range len(x.Chars) {
				said["3"+x.Name] = append(said["3"+x.Name], x.Chars[i:i+1])
			}
		}
		for _, m := range of(t, g, heads) {
			what := said[strconv.Itoa(m.Kind)+m.Name][m.At]
			did := slices.ContainsFunc(changeOf(t, g, m.By).Ops, func(o api.Op) bool {
				return o.Name == m.Name && (m.Kind == api.PatchKey && o.Kind == api.OpPut && o.Text == what || m.Kind == api.PatchText && o.Kind == api.OpIns && strings.Contains(o.Text, what))
			})
			if !did || !slices.Contains(past, m.By) {
				t.Fatalf("graph %d: %s did not put %q", seed, telling([]api.Mark{m}), what)
			}
		}
	}
}

// P14.3: what patches put is blamed on the changes that they name, and what they leave alone on those that it was blamed on.
func TestBlameAndPatches(t *testing.T) {
	for seed := range graphs() {
		l := list(seed + 3000)
		g, all := l.graph(t, 24, 5)
		a, b := l.some(all, 3), l.some(all, 3)
		patches, e := patch.Between(g, a, b)
		if e != api.OK {
			t.Fatalf("Between: %d", int(e))
		}
		by := map[string][]api.Hash{} // of each text, behind the patches
		for _, m := range of(t, g, a) {
			if m.Kind == api.PatchText {
				by[m.Name] = append(by[m.Name], m.By)
			}
		}
		for _, p := range patches {
			if p.Kind == api.PatchText {
				by[p.Name] = slices.Replace(by[p.Name], p.At, p.At+p.Cut, p.From...)
			}
		}
		for _, m := range of(t, g, b) {
			if m.Kind == api.PatchText && by[m.Name][m.At] != m.By {
				t.Fatalf("graph %d: %s", seed, telling([]api.Mark{m}))
			}
		}
	}
}

// P14.1, P14.2: what is told hangs on the set alone, not on what else the graph has, nor on the order in which it came, nor on which heads tell the set.
func TestSetAlone(t *testing.T) {
	for seed := range graphs() / 4 {
		l := list(seed + 4000)
		g, all := l.graph(t, 24, 5)
		heads := l.some(all, 3)
		want, wantShares := of(t, g, heads), sharing(shares(t, g, heads))
		set, _ := g.Past(heads)
		reduced, _ := g.Reduce(heads)
		other := dag.New()
		for _, h := range slices.Backward(set) { // from the greatest hash on, so that some wait
			bytes, _ := g.Bytes(h)
			other.Add(bytes)
		}
		write(t, g, "zoe", upon(all[0]), put("a", "late"), ins("a", 0, "late"), cut("B", 0, 9), del("a.b"))
		for _, same := range [][]api.Hash{heads, reduced, set, slices.Concat(set, heads)} {
			for _, graph := range []*dag.Graph{g, other, g.Fork()} {
				expectOf(t, graph, same, want)
				expectShares(t, graph, same, wantShares)
			}
		}
		if t.Failed() {
			t.Fatalf("graph %d", seed)
		}
	}
}

// P14.3: whoever writes around a character, it stays blamed on who put it.
func TestBlameStays(t *testing.T) {
	l := list(5000)
	g := dag.New()
	authors := []string{"ann", "bob", "cid"}
	var heads, by []api.Hash
	for i := range 80 {
		pos, n := l.below(len(by)+1), 1+l.below(3)
		gone := min(l.below(3), len(by)-pos)
		ops := []api.Op{ins("t", pos, strings.Repeat("x", n))} // all characters alike, so that the places alone tell them apart
		if gone > 0 {
			ops = append([]api.Op{cut("t", pos, gone)}, ops...)
		}
		h := write(t, g, authors[l.below(3)], heads, ops...)
		by = slices.Replace(by, pos, pos+gone, slices.Repeat(upon(h), n)...)
		heads = upon(h)
		expectOf(t, g, heads, chars("t", by...))
		if t.Failed() {
			t.Fatalf("step %d", i)
		}
	}
}
