package patch_test

import (
	"slices"
	"strconv"
	"strings"
	"testing"

	"stemma/api"
	"stemma/change"
	"stemma/dag"
	"stemma/hashes"
	"stemma/patch"
	"stemma/sha"
	"stemma/view"
)

// put, del, add, ins and cut tell operations.
func put(key, value string) api.Op { return api.Op{Kind: api.OpPut, Name: key, Text: value} }

func del(key string) api.Op { return api.Op{Kind: api.OpDel, Name: key} }

func add(key string, by int) api.Op { return api.Op{Kind: api.OpAdd, Name: key, By: by} }

func ins(name string, pos int, text string) api.Op {
	return api.Op{Kind: api.OpIns, Name: name, Pos: pos, Text: text}
}

func cut(name string, pos, by int) api.Op {
	return api.Op{Kind: api.OpCut, Name: name, Pos: pos, By: by}
}

// key, gone, count, noCount and text tell patches.
func key(name string, from []api.Hash, values ...string) api.Patch {
	return api.Patch{Kind: api.PatchKey, Name: name, Values: values, From: from}
}

func gone(name string) api.Patch { return api.Patch{Kind: api.PatchKey, Name: name, Gone: true} }

func count(name string, n int) api.Patch { return api.Patch{Kind: api.PatchCount, Name: name, By: n} }

func noCount(name string) api.Patch { return api.Patch{Kind: api.PatchCount, Name: name, Gone: true} }

func text(name string, at, cut int, put string, from ...api.Hash) api.Patch {
	return api.Patch{Kind: api.PatchText, Name: name, At: at, Cut: cut, Put: put, From: from}
}

// upon tells hashes as heads, or as what a change is made upon.
func upon(l ...api.Hash) []api.Hash { return hashes.Sort(l) }

// write adds a change of the author, with the next numbers, and tells its hash.
func write(t *testing.T, g *dag.Graph, author string, deps []api.Hash, ops ...api.Op) api.Hash {
	t.Helper()
	return noted(t, g, "", author, deps, ops...)
}

// noted adds a change with a note, which plays no part but in its hash.
func noted(t *testing.T, g *dag.Graph, note, author string, deps []api.Hash, ops ...api.Op) api.Hash {
	t.Helper()
	seq, start, e := g.Next(author, deps)
	if e != api.OK {
		t.Fatalf("Next: %d", int(e))
	}
	b, e := change.Put(api.Change{Author: author, Seq: seq, Start: start, Deps: deps, Note: note, Ops: ops})
	if e != api.OK {
		t.Fatalf("Put: %d", int(e))
	}
	h, e := g.Add(b)
	if e != api.OK || !g.Has(h) {
		t.Fatalf("Add: %d", int(e))
	}
	return h
}

// short tells the first digits of hashes.
func short(l []api.Hash) string {
	var words []string
	for _, h := range l {
		words = append(words, sha.Hex(h)[:8])
	}
	return "(" + strings.Join(words, " ") + ")"
}

// quoted tells values as a text.
func quoted(values []string) string {
	var words []string
	for _, v := range values {
		words = append(words, strconv.Quote(v))
	}
	return strings.Join(words, "|")
}

// saying tells a document as a text: key=value|value, count:n, text"characters".
func saying(d api.Doc) string {
	var words []string
	for _, k := range d.Entries {
		words = append(words, k.Key+"="+quoted(k.Values))
	}
	for _, c := range d.Counts {
		words = append(words, c.Key+":"+strconv.Itoa(c.N))
	}
	for _, x := range d.Texts {
		words = append(words, x.Name+strconv.Quote(x.Chars))
	}
	return strings.Join(words, " ")
}

// telling tells patches as a text, all fields of each.
func telling(l []api.Patch) string {
	var lines []string
	for _, p := range l {
		lines = append(lines, strings.Join([]string{
			"kind " + strconv.Itoa(p.Kind), strconv.Quote(p.Name), "values " + quoted(p.Values), "by " + strconv.Itoa(p.By), "gone " + strconv.FormatBool(p.Gone),
			"at " + strconv.Itoa(p.At), "cut " + strconv.Itoa(p.Cut), "put " + strconv.Quote(p.Put), "from " + short(p.From),
		}, ", "))
	}
	return "\n" + strings.Join(lines, "\n")
}

// at tells the document at some heads.
func at(t *testing.T, g *dag.Graph, heads []api.Hash) api.Doc {
	t.Helper()
	d, e := view.At(g, heads)
	if e != api.OK {
		t.Fatalf("At(%s): %d", short(heads), int(e))
	}
	return d
}

// between tells the patches from some heads to others.
func between(t *testing.T, g *dag.Graph, a, b []api.Hash) []api.Patch {
	t.Helper()
	l, e := patch.Between(g, a, b)
	if e != api.OK {
		t.Fatalf("Between(%s, %s): %d", short(a), short(b), int(e))
	}
	return l
}

// expectBetween asks for the patches from some heads to others, and that they lead there.
func expectBetween(t *testing.T, g *dag.Graph, a, b []api.Hash, want ...api.Patch) {
	t.Helper()
	got := between(t, g, a, b)
	if telling(got) != telling(want) {
		t.Errorf("Between = %s\nwant %s", telling(got), telling(want))
	}
	expectApply(t, at(t, g, a), got, saying(at(t, g, b)))
}

// expectApply asks for what a document says behind patches.
func expectApply(t *testing.T, d api.Doc, l []api.Patch, want string) {
	t.Helper()
	got, e := patch.Apply(d, l)
	if e != api.OK || saying(got) != want {
		t.Errorf("Apply(%s, %s) = %s, %d, want %s", saying(d), telling(l), saying(got), int(e), want)
	}
}

// The chapter's second example.
func TestExampleTwo(t *testing.T) {
	g := dag.New()
	a := write(t, g, "ann", nil, ins("t", 0, "abc"))
	b := write(t, g, "ann", upon(a), cut("t", 1, 1), ins("t", 1, "x"))
	expectBetween(t, g, upon(a), upon(b), text("t", 1, 1, "x", b))
	expectBetween(t, g, upon(b), upon(a), text("t", 1, 1, "b", a))
}

// P13.1: of nothing, and of changes that do nothing.
func TestNothingBetween(t *testing.T) {
	g := dag.New()
	expectBetween(t, g, nil, nil)
	expectBetween(t, g, []api.Hash{}, nil)
	a := write(t, g, "ann", nil)
	b := write(t, g, "bob", upon(a), cut("t", 0, 3), del("k"))
	for _, x := range [][]api.Hash{nil, upon(a), upon(b), upon(a, b)} {
		for _, y := range [][]api.Hash{nil, upon(a), upon(b), upon(a, b)} {
			expectBetween(t, g, x, y)
		}
	}
}

// P13.1: no graph, ahead of heads that are not there; heads that are not there, those that wait among them.
func TestBetweenErrors(t *testing.T) {
	g := dag.New()
	a := write(t, g, "ann", nil, put("k", "v"), ins("t", 0, "x"), add("n", 1))
	far := g.Fork()
	b := write(t, far, "bob", upon(a), put("k", "w"))
	c := write(t, far, "bob", upon(b), put("k", "u"))
	bytes, _ := far.Bytes(c)
	if _, e := g.Add(bytes); e != api.OK || len(g.Waiting()) != 1 {
		t.Fatalf("Add: %d", int(e))
	}
	refuse := func(g *dag.Graph, x, y []api.Hash, want api.Errno) {
		if l, e := patch.Between(g, x, y); len(l) != 0 || e != want {
			t.Errorf("Between(%s, %s) = %s, %d, want %d", short(x), short(y), telling(l), int(e), int(want))
		}
	}
	refuse(nil, nil, nil, api.ErrNil)
	for _, heads := range [][]api.Hash{{{}}, {b}, {c}, {a, b}, {b, a}, {a, a, {}}, {c, a}} {
		refuse(g, heads, nil, api.ErrUnknown)
		refuse(g, nil, heads, api.ErrUnknown)
		refuse(g, heads, upon(a), api.ErrUnknown)
		refuse(g, upon(a), heads, api.ErrUnknown)
		refuse(g, heads, heads, api.ErrUnknown)
		refuse(nil, heads, nil, api.ErrNil)
		refuse(nil, nil, heads, api.ErrNil)
		refuse(nil, heads, heads, api.ErrNil)
	}
	expectBetween(t, g, nil, upon(a), key("k", upon(a), "v"), count("n", 1), text("t", 0, 0, "x", a))
}

// P13.1: keys that come, go, and change, by their values alone.
func TestKeysBetween(t *testing.T) {
	g := dag.New()
	root := write(t, g, "root", nil, put("k", "r"), put("stays", "s"))
	a := write(t, g, "ann", upon(root), put("k", "a"))
	expectBetween(t, g, nil, upon(root), key("k", upon(root), "r"), key("stays", upon(root), "s"))
	expectBetween(t, g, upon(root), nil, gone("k"), gone("stays"))
	expectBetween(t, g, upon(root), upon(a), key("k", upon(a), "a"))
	expectBetween(t, g, upon(a), upon(root), key("k", upon(root), "r"))
	d := write(t, g, "dan", upon(a), del("k"))
	expectBetween(t, g, upon(a), upon(d), gone("k"))
	expectBetween(t, g, upon(d), upon(a), key("k", upon(a), "a"))
	again := write(t, g, "ann", upon(a), put("k", "a"))
	expectBetween(t, g, upon(a), upon(again)) // another change, the same value
	back := write(t, g, "ann", upon(d), put("k", "r"))
	expectBetween(t, g, upon(root), upon(back))
	expectBetween(t, g, upon(back), upon(root))
	expectBetween(t, g, upon(d), upon(back), key("k", upon(back), "r"))
}

// P13.1: an empty value is a value.
func TestEmptyValueBetween(t *testing.T) {
	g := dag.New()
	root := write(t, g, "root", nil)
	a := write(t, g, "ann", upon(root), put("k", ""))
	expectBetween(t, g, upon(root), upon(a), key("k", upon(a), ""))
	expectBetween(t, g, upon(a), upon(root), gone("k"))
	b := write(t, g, "bob", upon(root), put("k", ""))
	expectBetween(t, g, upon(a), upon(b))
	expectBetween(t, g, upon(a), upon(a, b), key("k", upon(a, b), "", "")) // the same number, so the hashes tell the order
}

// P13.1: values that stand beside one another: how many, and in which order.
func TestValuesBetween(t *testing.T) {
	g := dag.New()
	root := write(t, g, "root", nil)
	x := write(t, g, "ann", upon(root), put("k", "x"))
	y := write(t, g, "bob", upon(root), add("n", 0), put("k", "y")) // of a greater number
	expectBetween(t, g, upon(x), upon(x, y), key("k", []api.Hash{x, y}, "x", "y"), count("n", 0))
	expectBetween(t, g, upon(x, y), upon(x), key("k", upon(x), "x"), noCount("n"))
	expectBetween(t, g, upon(y), upon(x, y), key("k", []api.Hash{x, y}, "x", "y"))
	expectBetween(t, g, upon(x, y), upon(y), key("k", upon(y), "y"))
	both := upon(x, y)
	yy := write(t, g, "bob", both, put("k", "y"))
	xx := write(t, g, "ann", both, add("n", 0), put("k", "x"))
	expectBetween(t, g, both, upon(xx, yy), key("k", []api.Hash{yy, xx}, "y", "x")) // the same ones, turned
	same := write(t, g, "cid", both, add("m", 0), put("k", "x"))
	expectBetween(t, g, upon(x), upon(same), count("m", 0), count("n", 0))
	three := upon(xx, yy, same)
	d, _ := view.Entries(g, three)
	expectBetween(t, g, upon(xx, yy), three, key("k", d[0].By, d[0].Values...), count("m", 0))
	if len(d[0].By) != 3 {
		t.Errorf("%s", quoted(d[0].Values))
	}
}

// P13.1: counts that come, go, and change; one of 0 is there.
func TestCountsBetween(t *testing.T) {
	g := dag.New()
	root := write(t, g, "root", nil, add("m", 5), add("n", 0))
	a := write(t, g, "ann", upon(root), add("m", 2), add("o", -3))
	b := write(t, g, "bob", upon(root), add("m", 2))
	zero := write(t, g, "ann", upon(a), add("m", -7), add("o", 3))
	expectBetween(t, g, nil, upon(root), count("m", 5), count("n", 0))
	expectBetween(t, g, upon(root), nil, noCount("m"), noCount("n"))
	expectBetween(t, g, upon(root), upon(a), count("m", 7), count("o", -3))
	expectBetween(t, g, upon(a), upon(root), count("m", 5), noCount("o"))
	expectBetween(t, g, upon(a), upon(b), noCount("o")) // the same sum of others
	expectBetween(t, g, upon(b), upon(a), count("o", -3))
	expectBetween(t, g, upon(a), upon(a, b), count("m", 9))
	expectBetween(t, g, upon(a), upon(zero), count("m", 0), count("o", 0))
	expectBetween(t, g, nil, upon(zero), count("m", 0), count("n", 0), count("o", 0))
	expectBetween(t, g, upon(zero), nil, noCount("m"), noCount("n"), noCount("o"))
	more := write(t, g, "ann", upon(zero), add("m", api.MaxBy), add("m", api.MaxBy), add("n", -api.MaxBy), add("n", -api.MaxBy))
	expectBetween(t, g, upon(zero), upon(more), count("m", 2*api.MaxBy), count("n", -2*api.MaxBy))
}

// P13.1: a text's stretches, each from and to, and whose each character is.
func TestTextsBetween(t *testing.T) {
	g := dag.New()
	root := write(t, g, "root", nil, ins("t", 0, "abcdef"))
	r := func(n int) []api.Hash { return slices.Repeat(upon(root), n) }
	expectBetween(t, g, nil, upon(root), text("t", 0, 0, "abcdef", r(6)...))
	expectBetween(t, g, upon(root), nil, text("t", 0, 6, ""))
	a := write(t, g, "ann", upon(root), cut("t", 1, 2), ins("t", 2, "XY"), cut("t", 5, 1)) // adXYe
	expectBetween(t, g, upon(root), upon(a), text("t", 1, 2, ""), text("t", 2, 0, "XY", a, a), text("t", 5, 1, ""))
	expectBetween(t, g, upon(a), upon(root), text("t", 1, 0, "bc", r(2)...), text("t", 4, 2, ""), text("t", 5, 0, "f", root))
	b := write(t, g, "bob", upon(root), ins("t", 2, "Z"), cut("t", 4, 2)) // abZcf
	expectBetween(t, g, upon(root), upon(b), text("t", 2, 0, "Z", b), text("t", 4, 2, ""))
	expectBetween(t, g, upon(a), upon(b), text("t", 1, 4, "bZcf", root, b, root, root))
	expectBetween(t, g, upon(b), upon(a), text("t", 1, 4, "dXYe", root, a, a, root))
	expectBetween(t, g, upon(b), upon(a, b), text("t", 1, 1, ""), text("t", 2, 2, "XY", a, a)) // aZXY
	expectBetween(t, g, upon(a, b), upon(root), text("t", 1, 3, "bcdef", r(5)...))
}

// P13.1: what is seen in neither set parts no stretch, and counts for nothing; what is seen in both parts them.
func TestStretches(t *testing.T) {
	g := dag.New()
	root := write(t, g, "root", nil, ins("t", 0, "abcdefg"))
	low := write(t, g, "root", upon(root), cut("t", 1, 1), cut("t", 3, 1)) // acdfg, b and e are seen nowhere else
	a := write(t, g, "ann", upon(low), cut("t", 1, 1))                     // adfg
	b := write(t, g, "bob", upon(low), cut("t", 2, 2))                     // acg
	expectBetween(t, g, upon(a), upon(b), text("t", 1, 2, "c", root))
	expectBetween(t, g, upon(b), upon(a), text("t", 1, 1, "df", root, root))
	expectBetween(t, g, upon(low), upon(a, b), text("t", 1, 3, ""))
	expectBetween(t, g, upon(a, b), upon(low), text("t", 1, 0, "cdf", root, root, root))
	c := write(t, g, "cid", upon(low), cut("t", 0, 1), cut("t", 1, 1), cut("t", 2, 1)) // cf
	expectBetween(t, g, upon(low), upon(c), text("t", 0, 1, ""), text("t", 1, 1, ""), text("t", 2, 1, ""))
	expectBetween(t, g, upon(c), upon(low), text("t", 0, 0, "a", root), text("t", 2, 0, "d", root), text("t", 4, 0, "g", root))
}

// P13.1: the same letters put by another change are other characters.
func TestTypedAgain(t *testing.T) {
	g := dag.New()
	root := write(t, g, "root", nil, ins("t", 0, "aaa"))
	a := write(t, g, "ann", upon(root), cut("t", 1, 1), ins("t", 1, "a"))
	expectBetween(t, g, upon(root), upon(a), text("t", 1, 1, "a", a))
	b := write(t, g, "bob", upon(root), cut("t", 0, 3))
	c := write(t, g, "bob", upon(b), ins("t", 0, "aaa"))
	expectBetween(t, g, upon(root), upon(c), text("t", 0, 3, "aaa", c, c, c))
	expectBetween(t, g, upon(b), upon(c), text("t", 0, 0, "aaa", c, c, c))
	expectBetween(t, g, upon(root), upon(b), text("t", 0, 3, ""))
	expectBetween(t, g, upon(b), nil)
}

// P13.1: what two typed in turn is told with the change of each character.
func TestFromEach(t *testing.T) {
	g := dag.New()
	a := write(t, g, "ann", nil, ins("t", 0, "ad"))
	b := write(t, g, "bob", upon(a), ins("t", 1, "bc"))
	c := write(t, g, "cid", upon(b), ins("t", 2, "\x00\xff"))
	expectBetween(t, g, nil, upon(c), text("t", 0, 0, "ab\x00\xffcd", a, b, c, c, b, a))
	expectBetween(t, g, upon(a), upon(c), text("t", 1, 0, "b\x00\xffc", b, c, c, b))
	expectBetween(t, g, upon(b), upon(c), text("t", 2, 0, "\x00\xff", c, c))
	expectBetween(t, g, upon(c), upon(a), text("t", 1, 4, ""))
}

// P13.1: keys ahead of counts, counts ahead of texts, each by the names, rising, wherever they come from.
func TestOrderBetween(t *testing.T) {
	g := dag.New()
	long := strings.Repeat("z", api.MaxName)
	odd, even := []string{"b", "_", long, "a-b"}, []string{"a", "Z", "a.b", "0", "aa"}
	all := slices.Sorted(slices.Values(slices.Concat(odd, even)))
	ops := func(names []string) []api.Op {
		var l []api.Op
		for _, name := range names {
			l = append(l, ins(name, 0, "x"), put(name, "v"), add(name, 1))
		}
		return l
	}
	a := write(t, g, "ann", nil, ops(odd)...)
	b := write(t, g, "bob", nil, ops(even)...)
	var keys, counts, texts []api.Patch
	for _, name := range all {
		if slices.Contains(even, name) {
			keys, counts, texts = append(keys, key(name, upon(b), "v")), append(counts, count(name, 1)), append(texts, text(name, 0, 0, "x", b))
		} else {
			keys, counts, texts = append(keys, gone(name)), append(counts, noCount(name)), append(texts, text(name, 0, 1, ""))
		}
	}
	expectBetween(t, g, upon(a), upon(b), slices.Concat(keys, counts, texts)...)
}

// P13.1: heads in one another's past, in any order, and twice the same, are no more than the last of them.
func TestBetweenAnyHeads(t *testing.T) {
	g := dag.New()
	a := write(t, g, "ann", nil, put("k", "1"), add("n", 1), ins("t", 0, "a"))
	b := write(t, g, "ann", upon(a), put("k", "2"), add("n", 2), ins("t", 1, "b"))
	c := write(t, g, "bob", upon(a), del("k"), add("n", 4), cut("t", 0, 1))
	want := []api.Patch{key("k", upon(b), "2"), count("n", 7), text("t", 0, 1, "b", b)}
	expectBetween(t, g, upon(a), upon(b, c), want...)
	expectBetween(t, g, []api.Hash{a, a}, []api.Hash{c, b}, want...)
	expectBetween(t, g, []api.Hash{a}, []api.Hash{c, a, b, c, a}, want...)
	expectBetween(t, g, []api.Hash{a, b}, upon(b))
	expectBetween(t, g, []api.Hash{b, a, b, c}, []api.Hash{c, b})
}
