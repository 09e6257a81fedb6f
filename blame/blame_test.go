package blame_test

import (
	"slices"
	"strconv"
	"strings"
	"testing"

	"stemma/api"
	"stemma/blame"
	"stemma/change"
	"stemma/dag"
	"stemma/hashes"
	"stemma/patch"
	"stemma/sha"
)

// put, del, add, ins and cut tell operations.
func put(key, value string) api.Op { return api.Op{Kind: api.OpPut, Name: key, Text: value} }

func del(key string) api.Op { return api.Op{Kind: api.OpDel, Name: key} }

func add(key string, by int) api.Op { return api.Op{Kind: api.OpAdd, Name: key, By: by} }

func ins(name string, pos int, text string) api.Op {
	return api.Op{Kind: api.OpIns, Name: name, Pos: pos, Text: text}
}

func cut(name string, pos, by int) api.Op {
	return api.Op{Kind: api.OpCut, Name: name, Pos: pos, By: by}
}

// upon tells hashes as heads, or as what a change is made upon.
func upon(l ...api.Hash) []api.Hash { return hashes.Sort(l) }

// write adds a change of the author, with the next numbers, and tells its hash.
func write(t *testing.T, g *dag.Graph, author string, deps []api.Hash, ops ...api.Op) api.Hash {
	t.Helper()
	return noted(t, g, "", author, deps, ops...)
}

// noted adds a change with a note, which plays no part but in its hash.
func noted(t *testing.T, g *dag.Graph, note, author string, deps []api.Hash, ops ...api.Op) api.Hash {
	t.Helper()
	seq, start, e := g.Next(author, deps)
	if e != api.OK {
		t.Fatalf("Next: %d", int(e))
	}
	b, e := change.Put(api.Change{Author: author, Seq: seq, Start: start, Deps: deps, Note: note, Ops: ops})
	if e != api.OK {
		t.Fatalf("Put: %d", int(e))
	}
	h, e := g.Add(b)
	if e != api.OK || !g.Has(h) {
		t.Fatalf("Add: %d", int(e))
	}
	return h
}

// keys and chars tell the marks of a key's values and of a text's characters, one for each change.
func keys(name string, by ...api.Hash) []api.Mark { return marks(api.PatchKey, name, by) }

func chars(name string, by ...api.Hash) []api.Mark { return marks(api.PatchText, name, by) }

func marks(kind int, name string, by []api.Hash) []api.Mark {
	var l []api.Mark
	for at, h := range by {
		l = append(l, api.Mark{Kind: kind, Name: name, At: at, By: h})
	}
	return l
}

// telling tells marks as a text, all fields of each.
func telling(l []api.Mark) string {
	var words []string
	for _, m := range l {
		words = append(words, strconv.Itoa(m.Kind)+" "+strconv.Quote(m.Name)+" "+strconv.Itoa(m.At)+" "+sha.Hex(m.By)[:8])
	}
	return strings.Join(words, ", ")
}

// sharing tells shares as a text: author values/chars.
func sharing(l []blame.Share) string {
	var words []string
	for _, s := range l {
		words = append(words, s.Author+" "+strconv.Itoa(s.Values)+"/"+strconv.Itoa(s.Chars))
	}
	return strings.Join(words, ", ")
}

// of tells the marks at some heads.
func of(t *testing.T, g *dag.Graph, heads []api.Hash) []api.Mark {
	t.Helper()
	l, e := blame.Of(g, heads)
	if e != api.OK {
		t.Fatalf("Of: %d", int(e))
	}
	return l
}

// shares tells the shares at some heads.
func shares(t *testing.T, g *dag.Graph, heads []api.Hash) []blame.Share {
	t.Helper()
	l, e := blame.Shares(g, heads)
	if e != api.OK {
		t.Fatalf("Shares: %d", int(e))
	}
	return l
}

// expectOf asks for the marks at some heads.
func expectOf(t *testing.T, g *dag.Graph, heads []api.Hash, want ...[]api.Mark) {
	t.Helper()
	if got, want := of(t, g, heads), slices.Concat(want...); !slices.Equal(got, want) {
		t.Errorf("Of = %s\nwant %s", telling(got), telling(want))
	}
}

// expectShares asks for the shares at some heads, as a text.
func expectShares(t *testing.T, g *dag.Graph, heads []api.Hash, want string) {
	t.Helper()
	if got := shares(t, g, heads); sharing(got) != want {
		t.Errorf("Shares = %s, want %s", sharing(got), want)
	}
}

// The chapter's first example.
func TestExampleOne(t *testing.T) {
	g := dag.New()
	h := write(t, g, "ann", nil, ins("t", 0, "ab"), put("k", "v"))
	want := []api.Mark{{Kind: api.PatchKey, Name: "k", At: 0, By: h}, {Kind: api.PatchText, Name: "t", At: 0, By: h}, {Kind: api.PatchText, Name: "t", At: 1, By: h}}
	expectOf(t, g, upon(h), want)
	if got := shares(t, g, upon(h)); !slices.Equal(got, []blame.Share{{Author: "ann", Values: 1, Chars: 2}}) {
		t.Errorf("Shares = %s", sharing(got))
	}
}

// The chapter's second example: of nothing, in a graph that has nothing and in one that has something.
func TestExampleTwo(t *testing.T) {
	empty, full := dag.New(), dag.New()
	write(t, full, "ann", nil, ins("t", 0, "ab"), put("k", "v"))
	for _, g := range []*dag.Graph{empty, full} {
		for _, none := range [][]api.Hash{nil, {}} {
			expectOf(t, g, none)
			expectShares(t, g, none, "")
		}
	}
}

// The tenth example of the whole: who put what a patch puts.
func TestExampleOfTheWhole(t *testing.T) {
	g := dag.New()
	a := write(t, g, "ann", nil, ins("t", 0, "abc"))
	b := write(t, g, "bob", upon(a), cut("t", 1, 1), ins("t", 1, "x"))
	l, e := patch.Between(g, upon(a), upon(b))
	if e != api.OK || len(l) != 1 || l[0].At != 1 || l[0].Cut != 1 || l[0].Put != "x" {
		t.Fatalf("Between: %d, %d patches", int(e), len(l))
	}
	expectOf(t, g, upon(b), chars("t", a, b, a))
	expectOf(t, g, upon(a), chars("t", a, a, a))
	expectShares(t, g, upon(b), "ann 0/2, bob 0/1")
}

// P14.1, P14.2: no graph, ahead of heads that are not there; heads that are not there, those that wait among them.
func TestErrors(t *testing.T) {
	g := dag.New()
	a := write(t, g, "ann", nil, put("k", "v"), ins("t", 0, "x"))
	far := g.Fork()
	b := write(t, far, "bob", upon(a), put("k", "w"))
	c := write(t, far, "bob", upon(b), put("k", "u"))
	bytes, _ := far.Bytes(c)
	if _, e := g.Add(bytes); e != api.OK || len(g.Waiting()) != 1 {
		t.Fatalf("Add: %d", int(e))
	}
	refuse := func(g *dag.Graph, heads []api.Hash, want api.Errno) {
		t.Helper()
		if l, e := blame.Of(g, heads); len(l) != 0 || e != want {
			t.Errorf("Of = %s, %d, want %d", telling(l), int(e), int(want))
		}
		if l, e := blame.Shares(g, heads); len(l) != 0 || e != want {
			t.Errorf("Shares = %s, %d, want %d", sharing(l), int(e), int(want))
		}
	}
	refuse(nil, nil, api.ErrNil)
	refuse(nil, upon(a), api.ErrNil)
	refuse(dag.New(), upon(a), api.ErrUnknown)
	for _, heads := range [][]api.Hash{{{}}, {b}, {c}, {a, b}, {b, a}, {a, a, {}}, {{}, a}, {c, a}} {
		refuse(g, heads, api.ErrUnknown)
		refuse(nil, heads, api.ErrNil)
	}
	expectOf(t, g, upon(a), keys("k", a), chars("t", a))
	expectShares(t, g, upon(a), "ann 1/1")
}

// P14.1: a key's values are blamed on those that put them last: what was put over or taken away has no mark.
func TestValues(t *testing.T) {
	g := dag.New()
	root := write(t, g, "root", nil, put("k", "r"), put("l", "r"), put("m", "r"))
	a := write(t, g, "ann", upon(root), put("k", "x"), put("k", "y"), del("m"))
	b := write(t, g, "bob", upon(a), put("m", ""), put("n", "z"), del("n"))
	again := write(t, g, "cid", upon(b), put("l", "r")) // the same value, put by another one
	expectOf(t, g, upon(root), keys("k", root), keys("l", root), keys("m", root))
	expectOf(t, g, upon(a), keys("k", a), keys("l", root))
	expectOf(t, g, upon(b), keys("k", a), keys("l", root), keys("m", b)) // an empty value is one
	expectOf(t, g, upon(again), keys("k", a), keys("l", again), keys("m", b))
	expectShares(t, g, upon(root), "root 3/0")
	expectShares(t, g, upon(a), "ann 1/0, root 1/0")
	expectShares(t, g, upon(again), "ann 1/0, bob 1/0, cid 1/0, root 0/0")
}

// P14.1: values beside one another are marked in their order, by their ids: the number first, then the hash.
func TestValuesBeside(t *testing.T) {
	g := dag.New()
	root := write(t, g, "root", nil, put("k", "r"))
	var low, high []api.Hash
	for i := range 6 {
		note, author := strconv.Itoa(i), string([]byte{byte('f' - i)})
		if i%2 == 0 {
			low = append(low, noted(t, g, note, author, upon(root), put("k", "same"), put("j", "v")))
		} else {
			high = append(high, noted(t, g, note, author, upon(root), put("j", "v"), put("k", "same")))
		}
	}
	low, high = upon(low...), upon(high...)
	heads := upon(slices.Concat(low, high)...)
	expectOf(t, g, heads, keys("j", slices.Concat(high, low)...), keys("k", slices.Concat(low, high)...))
	expectShares(t, g, heads, "a 2/0, b 2/0, c 2/0, d 2/0, e 2/0, f 2/0, root 0/0")
	expectOf(t, g, high, keys("j", high...), keys("k", high...))
	last := write(t, g, "ann", heads, put("k", "one"))
	expectOf(t, g, upon(last), keys("j", slices.Concat(high, low)...), keys("k", last))
}

// P14.1: characters are marked where they stand, by the change that put each; those that are gone have no mark and no place.
func TestChars(t *testing.T) {
	g := dag.New()
	a := write(t, g, "ann", nil, ins("t", 0, "ad"))
	b := write(t, g, "bob", upon(a), ins("t", 1, "bc"))
	c := write(t, g, "cid", upon(b), ins("t", 2, "\x00\xff"))
	d := write(t, g, "ann", upon(c), cut("t", 1, 2), ins("t", 9, "d"))
	e := write(t, g, "eve", upon(d), cut("t", 0, api.MaxValue))
	f := write(t, g, "eve", upon(e), ins("t", 3, "a"))
	expectOf(t, g, upon(a), chars("t", a, a))
	expectOf(t, g, upon(b), chars("t", a, b, b, a))
	expectOf(t, g, upon(c), chars("t", a, b, c, c, b, a))
	expectOf(t, g, upon(d), chars("t", a, c, b, a, d))
	expectOf(t, g, upon(e))
	expectOf(t, g, upon(f), chars("t", f))
	expectShares(t, g, upon(c), "ann 0/2, bob 0/2, cid 0/2")
	expectShares(t, g, upon(d), "ann 0/3, bob 0/1, cid 0/1")
	expectShares(t, g, upon(e), "ann 0/0, bob 0/0, cid 0/0, eve 0/0")
	expectShares(t, g, upon(f), "ann 0/0, bob 0/0, cid 0/0, eve 0/1")
}

// P14.1: characters are seen or not at the heads alone: what another branch put or took plays no part.
func TestCharsBeside(t *testing.T) {
	g := dag.New()
	root := write(t, g, "root", nil, ins("t", 0, "abcd"), ins("u", 0, "x"))
	a := write(t, g, "ann", upon(root), cut("t", 1, 2), ins("t", 1, "AA"), cut("u", 0, 1))
	b := write(t, g, "bob", upon(root), ins("t", 3, "B"), cut("t", 0, 2))
	expectOf(t, g, upon(root), chars("t", root, root, root, root), chars("u", root))
	expectOf(t, g, upon(a), chars("t", root, a, a, root))
	expectOf(t, g, upon(b), chars("t", root, b, root), chars("u", root))
	expectOf(t, g, upon(a, b), chars("t", a, a, b, root))
	expectShares(t, g, upon(a), "ann 0/2, root 0/2")
	expectShares(t, g, upon(b), "bob 0/1, root 0/3")
	expectShares(t, g, upon(a, b), "ann 0/2, bob 0/1, root 0/1")
}

// P14.1: keys ahead of texts, each by the names, rising; a key, a count and a text of one name are three things, and counts have no marks.
func TestOrder(t *testing.T) {
	g := dag.New()
	long := strings.Repeat("z", api.MaxName)
	odd, even := []string{"b", "_", long, "a-b"}, []string{"a", "Z", "a.b", "0", "aa"}
	ops := func(names []string) []api.Op {
		var l []api.Op
		for _, name := range names {
			l = append(l, ins(name, 0, "x"), put(name, "v"), add(name, 1), add("count", 1))
		}
		return l
	}
	a := write(t, g, "ann", nil, ops(odd)...)
	b := write(t, g, "bob", nil, ops(even)...)
	var first, then []api.Mark
	for _, name := range slices.Sorted(slices.Values(slices.Concat(odd, even))) {
		by := a
		if slices.Contains(even, name) {
			by = b
		}
		first, then = append(first, keys(name, by)...), append(then, chars(name, by)...)
	}
	expectOf(t, g, upon(a, b), first, then)
	expectShares(t, g, upon(a, b), "ann 4/4, bob 5/5")
}

// P14.2: each author of the past is told, by the names, rising, with nothing, too; others are not.
func TestAuthors(t *testing.T) {
	g := dag.New()
	a := write(t, g, "b", nil, add("n", 1))
	b := write(t, g, "a-1", upon(a))
	c := write(t, g, "Z", upon(b), put("k", "v"), ins("t", 0, "xyz"))
	d := write(t, g, "a.1", upon(c), cut("t", 0, 1), del("k"))
	e := write(t, g, "_", upon(d), cut("none", 0, 1), del("none"))
	f := write(t, g, "a", upon(c), put("k", "w"))
	expectShares(t, g, upon(a), "b 0/0")
	expectShares(t, g, upon(b), "a-1 0/0, b 0/0")
	expectShares(t, g, upon(c), "Z 1/3, a-1 0/0, b 0/0")
	expectShares(t, g, upon(e), "Z 0/2, _ 0/0, a-1 0/0, a.1 0/0, b 0/0")
	expectShares(t, g, upon(f), "Z 0/3, a 1/0, a-1 0/0, b 0/0")
	expectShares(t, g, upon(e, f), "Z 0/2, _ 0/0, a 1/0, a-1 0/0, a.1 0/0, b 0/0")
	expectOf(t, g, upon(e, f), keys("k", f), chars("t", c, c))
}

// P14.2: an author is told once, with what all of his changes have, those that he made beside one another, too.
func TestOneAuthor(t *testing.T) {
	g := dag.New()
	a := write(t, g, "ann", nil, put("k", "1"), ins("t", 0, "ab"))
	b := write(t, g, "ann", upon(a), put("l", "1"), ins("u", 0, "c"))
	c := noted(t, g, "one", "ann", upon(b), put("k", "2"), ins("t", 2, "d"))
	d := noted(t, g, "two", "ann", upon(b), put("k", "3"), ins("t", 0, "e"))
	e := write(t, g, "bob", upon(c, d), put("l", "2"), ins("u", 0, "f"))
	expectShares(t, g, upon(a), "ann 1/2")
	expectShares(t, g, upon(b), "ann 2/3")
	expectShares(t, g, upon(c), "ann 2/4")
	expectShares(t, g, upon(c, d), "ann 3/5")
	expectShares(t, g, upon(e), "ann 2/5, bob 1/1")
	expectOf(t, g, upon(e), keys("k", upon(c, d)...), keys("l", e), chars("t", d, a, a, c), chars("u", e, b)) // c and d have the same number, so the hashes tell the order
}

// P14.1, P14.2: heads in one another's past, in any order, and twice the same, are no more than the last of them.
func TestAnyHeads(t *testing.T) {
	g := dag.New()
	a := write(t, g, "ann", nil, put("k", "1"), ins("t", 0, "a"))
	b := write(t, g, "ann", upon(a), put("k", "2"), ins("t", 1, "b"))
	c := write(t, g, "bob", upon(a), del("k"), ins("t", 0, "c"), put("l", "1"))
	for _, heads := range [][]api.Hash{{b, c}, {c, b}, {c, a, b, c, a}, {a, a, b, b, c}} {
		expectOf(t, g, heads, keys("k", b), keys("l", c), chars("t", c, a, b))
		expectShares(t, g, heads, "ann 1/2, bob 1/1")
	}
	for _, heads := range [][]api.Hash{{b}, {a, b}, {b, a, b}} {
		expectOf(t, g, heads, keys("k", b), chars("t", a, b))
		expectShares(t, g, heads, "ann 1/2")
	}
}

// P14.1, P14.2: changes that wait play no part.
func TestWaiting(t *testing.T) {
	far := dag.New()
	a := write(t, far, "ann", nil, put("k", "1"), ins("t", 0, "a"))
	b := write(t, far, "bob", upon(a), ins("t", 0, "b"))
	c := write(t, far, "cid", upon(b), put("k", "2"), ins("t", 0, "c"))
	g := dag.New()
	for i, h := range []api.Hash{a, c, b} {
		bytes, _ := far.Bytes(h)
		if _, e := g.Add(bytes); e != api.OK {
			t.Fatalf("Add: %d", int(e))
		}
		if i < 2 {
			expectOf(t, g, g.Heads(), keys("k", a), chars("t", a))
			expectShares(t, g, g.Heads(), "ann 1/1")
		}
	}
	expectOf(t, g, g.Heads(), keys("k", c), chars("t", c, b, a))
	expectShares(t, g, g.Heads(), "ann 0/1, bob 0/1, cid 1/1")
}
