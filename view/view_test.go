package view_test

import (
	"slices"
	"strconv"
	"strings"
	"testing"

	"stemma/api"
	"stemma/change"
	"stemma/dag"
	"stemma/hashes"
	"stemma/sha"
	"stemma/view"
)

// put, del, add, ins and cut tell operations.
func put(key, value string) api.Op { return api.Op{Kind: api.OpPut, Name: key, Text: value} }

func del(key string) api.Op { return api.Op{Kind: api.OpDel, Name: key} }

func add(key string, by int) api.Op { return api.Op{Kind: api.OpAdd, Name: key, By: by} }

func ins(name string, pos int, text string) api.Op {
	return api.Op{Kind: api.OpIns, Name: name, Pos: pos, Text: text}
}

func cut(name string, pos, by int) api.Op {
	return api.Op{Kind: api.OpCut, Name: name, Pos: pos, By: by}
}

// upon tells hashes as heads, or as what a change is made upon.
func upon(l ...api.Hash) []api.Hash { return hashes.Sort(l) }

// write adds a change of the author, with the next numbers, and tells its hash.
func write(t *testing.T, g *dag.Graph, author string, deps []api.Hash, ops ...api.Op) api.Hash {
	t.Helper()
	return noted(t, g, "", author, deps, ops...)
}

// noted adds a change with a note, which plays no part but in its hash.
func noted(t *testing.T, g *dag.Graph, note, author string, deps []api.Hash, ops ...api.Op) api.Hash {
	t.Helper()
	seq, start, e := g.Next(author, deps)
	if e != api.OK {
		t.Fatalf("Next: %d", int(e))
	}
	b, e := change.Put(api.Change{Author: author, Seq: seq, Start: start, Deps: deps, Note: note, Ops: ops})
	if e != api.OK {
		t.Fatalf("Put: %d", int(e))
	}
	h, e := g.Add(b)
	if e != api.OK || !g.Has(h) {
		t.Fatalf("Add: %d", int(e))
	}
	return h
}

// seek writes a change with one note behind the other, each into a graph of its own, until its hash is as wanted, and then into g.
func seek(t *testing.T, g *dag.Graph, author string, deps []api.Hash, wanted func(api.Hash) bool, ops ...api.Op) api.Hash {
	t.Helper()
	for i := range 10000 {
		note := strconv.Itoa(i)
		if wanted(noted(t, g.Fork(), note, author, deps, ops...)) {
			return noted(t, g, note, author, deps, ops...)
		}
	}
	t.Fatal("no such change")
	return api.Hash{}
}

// saying tells a document as a text: key=value|value, count:n, text"characters".
func saying(d api.Doc) string {
	var words []string
	for _, k := range d.Entries {
		var values []string
		for _, v := range k.Values {
			values = append(values, strconv.Quote(v))
		}
		words = append(words, k.Key+"="+strings.Join(values, "|"))
	}
	for _, c := range d.Counts {
		words = append(words, c.Key+":"+strconv.Itoa(c.N))
	}
	for _, x := range d.Texts {
		words = append(words, x.Name+strconv.Quote(x.Chars))
	}
	return strings.Join(words, " ")
}

// holding tells keys with their values and changes as a text.
func holding(l []view.Held) string {
	var words []string
	for _, k := range l {
		var values []string
		for _, v := range k.Values {
			values = append(values, strconv.Quote(v))
		}
		words = append(words, k.Key+"="+strings.Join(values, "|")+" by "+short(k.By))
	}
	return strings.Join(words, " ")
}

// rowing tells rows as a text: of each character it, its change, and where it is seen.
func rowing(l []view.Row) string {
	var words []string
	for _, r := range l {
		words = append(words, r.Name+":")
		for _, c := range r.Chars {
			word := strconv.Quote(string([]byte{c.Char})) + short([]api.Hash{c.By})
			if c.A {
				word += "A"
			}
			if c.B {
				word += "B"
			}
			words = append(words, word)
		}
	}
	return strings.Join(words, " ")
}

// short tells the first digits of hashes.
func short(l []api.Hash) string {
	var words []string
	for _, h := range l {
		words = append(words, sha.Hex(h)[:8])
	}
	return "(" + strings.Join(words, " ") + ")"
}

// at tells what is said at some heads.
func at(t *testing.T, g *dag.Graph, heads ...api.Hash) string {
	t.Helper()
	d, e := view.At(g, heads)
	if e != api.OK {
		t.Fatalf("At(%s): %d", short(heads), int(e))
	}
	return saying(d)
}

// expectAt asks for what is said at some heads.
func expectAt(t *testing.T, g *dag.Graph, heads []api.Hash, want string) {
	t.Helper()
	if got := at(t, g, heads...); got != want {
		t.Errorf("At says %s, want %s", got, want)
	}
}

// expectHeld asks for keys with their values and changes.
func expectHeld(t *testing.T, g *dag.Graph, heads []api.Hash, want ...view.Held) {
	t.Helper()
	got, e := view.Entries(g, heads)
	if e != api.OK || holding(got) != holding(want) {
		t.Errorf("Entries = %s, %d, want %s", holding(got), int(e), holding(want))
	}
}

// expectRows asks for rows.
func expectRows(t *testing.T, g *dag.Graph, a, b []api.Hash, want ...view.Row) {
	t.Helper()
	got, e := view.Both(g, a, b)
	if e != api.OK || rowing(got) != rowing(want) {
		t.Errorf("Both = %s, %d, want %s", rowing(got), int(e), rowing(want))
	}
}

// The chapter's first example.
func TestExampleOne(t *testing.T) {
	g := dag.New()
	a := write(t, g, "ann", nil, ins("t", 0, "ac"), ins("t", 1, "b"), cut("t", 0, 1))
	expectAt(t, g, upon(a), `t"bc"`)
	b := write(t, g, "ann", nil, put("k", "x"), put("k", "y"))
	expectAt(t, g, upon(b), `k="y"`)
	c := write(t, g, "ann", nil, put("k", "x"), del("k"))
	expectAt(t, g, upon(c), ``)
}

// The chapter's second example, for both orders of the hashes.
func TestExampleTwo(t *testing.T) {
	for _, bobIsLess := range []bool{true, false} {
		g := dag.New()
		root := write(t, g, "ann", nil)
		eve := write(t, g, "eve", upon(root), put("k", "e"), ins("t", 0, "EVE"))
		bob := seek(t, g, "bob", upon(root), func(h api.Hash) bool { return sha.Less(h, eve) == bobIsLess }, put("k", "b"), ins("t", 0, "BOB"))
		want := `k="e"|"b" t"BOBEVE"`
		if bobIsLess {
			want = `k="b"|"e" t"EVEBOB"`
		}
		expectAt(t, g, upon(bob, eve), want)
	}
}

// P12.1, P12.2: nothing is said of nothing.
func TestNothing(t *testing.T) {
	g := dag.New()
	expectAt(t, g, nil, ``)
	expectAt(t, g, []api.Hash{}, ``)
	expectHeld(t, g, nil)
	expectRows(t, g, nil, nil)
	a := write(t, g, "ann", nil)
	for _, heads := range [][]api.Hash{nil, upon(a)} {
		d, e := view.At(g, heads)
		if len(d.Entries) != 0 || len(d.Counts) != 0 || len(d.Texts) != 0 || e != api.OK {
			t.Errorf("At(%s) = %v, %d", short(heads), d, int(e))
		}
		expectHeld(t, g, heads)
		expectRows(t, g, heads, nil)
		expectRows(t, g, nil, heads)
	}
	write(t, g, "bob", nil, put("k", "v"), add("n", 1), ins("t", 0, "x"))
	expectAt(t, g, nil, ``)
	expectAt(t, g, upon(a), ``)
	expectHeld(t, g, upon(a))
	expectRows(t, g, upon(a), upon(a))
}

// expectRefused asks that all calls refuse some heads with an error, and tell nothing else.
func expectRefused(t *testing.T, g *dag.Graph, a, b []api.Hash, want api.Errno) {
	t.Helper()
	if rows, e := view.Both(g, a, b); rows != nil || e != want {
		t.Errorf("Both(%s, %s) = %v, %d, want %d", short(a), short(b), rows, int(e), int(want))
	}
	heads := slices.Concat(a, b)
	if d, e := view.At(g, heads); d.Entries != nil || d.Counts != nil || d.Texts != nil || e != want {
		t.Errorf("At(%s) = %v, %d, want %d", short(heads), d, int(e), int(want))
	}
	if l, e := view.Entries(g, heads); l != nil || e != want {
		t.Errorf("Entries(%s) = %v, %d, want %d", short(heads), l, int(e), int(want))
	}
}

// P12.1, P12.2: no graph, ahead of heads that are not there.
func TestNil(t *testing.T) {
	for _, heads := range [][]api.Hash{nil, {}, {{}}, {{1}, {2}}} {
		expectRefused(t, nil, heads, nil, api.ErrNil)
		expectRefused(t, nil, nil, heads, api.ErrNil)
	}
}

// P12.1, P12.2: heads that are not there, those that wait among them.
func TestUnknown(t *testing.T) {
	g := dag.New()
	a := write(t, g, "ann", nil, put("k", "v"), ins("t", 0, "x"), add("n", 1))
	far := g.Fork()
	b := write(t, far, "bob", upon(a), put("k", "w"))
	c := write(t, far, "bob", upon(b), put("k", "u"))
	bytes, _ := far.Bytes(c)
	if _, e := g.Add(bytes); e != api.OK || len(g.Waiting()) != 1 {
		t.Fatalf("Add: %d", int(e))
	}
	for _, heads := range [][]api.Hash{{{}}, {b}, {c}, {a, b}, {b, a}, {a, a, {}}, {c, a}} {
		expectRefused(t, g, heads, nil, api.ErrUnknown)
		expectRefused(t, g, nil, heads, api.ErrUnknown)
		expectRefused(t, g, heads, upon(a), api.ErrUnknown)
		expectRefused(t, g, upon(a), heads, api.ErrUnknown)
		expectRefused(t, g, heads, heads, api.ErrUnknown)
	}
	expectAt(t, g, upon(a), `k="v" n:1 t"x"`)
}

// P12.1: what is said at the heads that are asked for, not at those of the graph; heads in one another's past, and twice the same, are no more than the last of them.
func TestAtAnyHeads(t *testing.T) {
	g := dag.New()
	a := write(t, g, "ann", nil, put("k", "1"), add("n", 1), ins("t", 0, "a"))
	b := write(t, g, "ann", upon(a), put("k", "2"), add("n", 2), ins("t", 1, "b"))
	c := write(t, g, "bob", upon(a), del("k"), add("n", 4), cut("t", 0, 1))
	d := write(t, g, "bob", upon(b, c), put("k", "4"), add("n", 8), ins("t", 1, "d"))
	expectAt(t, g, upon(a), `k="1" n:1 t"a"`)
	expectAt(t, g, upon(b), `k="2" n:3 t"ab"`)
	expectAt(t, g, upon(c), `n:5`)
	expectAt(t, g, upon(b, c), `k="2" n:7 t"b"`)
	expectAt(t, g, upon(d), `k="4" n:15 t"bd"`)
	expectAt(t, g, []api.Hash{b, a}, `k="2" n:3 t"ab"`)
	expectAt(t, g, []api.Hash{a, b, b, a}, `k="2" n:3 t"ab"`)
	expectAt(t, g, []api.Hash{d, a, c, b, d}, `k="4" n:15 t"bd"`)
}

// P12.1: each list by the names, rising; a key, a count and a text of one name have nothing in common.
func TestNames(t *testing.T) {
	g := dag.New()
	long := strings.Repeat("z", api.MaxName)
	names := []string{"b", "a", long, "_", "Z", "a.b", "a-b", "0", "aa"}
	var ops []api.Op
	for _, name := range names {
		ops = append(ops, ins(name, 0, "t"+name), put(name, "v"+name), add(name, len(name)))
	}
	a := write(t, g, "ann", nil, ops...)
	slices.Sort(names)
	var keys, counts, texts []string
	for _, name := range names {
		keys = append(keys, name+`="v`+name+`"`)
		counts = append(counts, name+":"+strconv.Itoa(len(name)))
		texts = append(texts, name+`"t`+name+`"`)
	}
	expectAt(t, g, upon(a), strings.Join(slices.Concat(keys, counts, texts), " "))
	b := write(t, g, "ann", upon(a), del("a"), cut("b", 0, 9))
	got := at(t, g, b)
	for word, there := range map[string]bool{`a="va"`: false, `b="vb"`: true, "a:1": true, "b:1": true, `a"ta"`: true, `b"tb"`: false} {
		if slices.Contains(strings.Split(got, " "), word) != there {
			t.Errorf("%s: %t in %s", word, !there, got)
		}
	}
}

// P12.1: values of all lengths and bytes; one that is empty is a value.
func TestValues(t *testing.T) {
	g := dag.New()
	a := write(t, g, "ann", nil, put("k", ""))
	expectAt(t, g, upon(a), `k=""`)
	for _, v := range []string{"\x00", "\xff\xfe", "ä", strings.Repeat("v", api.MaxValue)} {
		b := write(t, g, "ann", upon(a), put("k", v))
		expectAt(t, g, upon(b), "k="+strconv.Quote(v))
		expectHeld(t, g, upon(b), view.Held{Key: "k", Values: []string{v}, By: upon(b)})
	}
	same := write(t, g, "bob", upon(a), put("k", ""))
	other := write(t, g, "eve", upon(a), put("k", ""))
	if got := at(t, g, same, other); got != `k=""|""` {
		t.Errorf("the same value of two: %s", got)
	}
}

// P12.1, P12.2: which values stay: those that nothing done to the key has ahead of itself.
func TestWhatOverwritesWhat(t *testing.T) {
	g := dag.New()
	root := write(t, g, "root", nil, put("k", "r"), put("l", "r"))
	a := write(t, g, "ann", upon(root), put("k", "a"))
	b := write(t, g, "bob", upon(root), del("k"))
	c := write(t, g, "cid", upon(root), put("l", "c"))
	expectAt(t, g, upon(a, b), `k="a" l="r"`)          // what is deleted beside a put stays put
	expectAt(t, g, upon(b, c), `l="c"`)                // what root put is deleted
	expectAt(t, g, upon(root, c), `k="r" l="c"`)       // another key plays no part
	d := write(t, g, "dan", upon(a, b), del("k"))      // upon both
	e := write(t, g, "eve", upon(b), put("k", "e"))    // upon the one that deleted it
	f := write(t, g, "fay", upon(a, c), add("k", 1))   // a count, which overwrites nothing
	i := write(t, g, "ida", upon(a), ins("k", 0, "x")) // a text, which does not, either
	expectAt(t, g, upon(d), `l="r"`)
	expectAt(t, g, upon(d, a), `l="r"`)
	expectAt(t, g, upon(e), `k="e" l="r"`)
	expectAt(t, g, upon(f), `k="a" l="c" k:1`)
	expectAt(t, g, upon(d, e), `k="e" l="r"`)
	expectAt(t, g, upon(d, f), `l="c" k:1`)
	expectAt(t, g, upon(i), `k="a" l="r" k"x"`)
	expectHeld(t, g, upon(e, f, d), view.Held{Key: "k", Values: []string{"e"}, By: upon(e)}, view.Held{Key: "l", Values: []string{"c"}, By: upon(c)})
}

// P12.1, P12.2: values that stand beside one another are told by their ids: the lesser number first, and of the same number the lesser hash.
func TestOrderOfValues(t *testing.T) {
	g := dag.New()
	root := write(t, g, "root", nil, put("k", "r"))
	more := seek(t, g, "bob", upon(root), func(h api.Hash) bool { return h[0] < 0x40 }, ins("t", 0, "xyz"), put("k", "more"))
	most := seek(t, g, "cid", upon(root), func(h api.Hash) bool { return h[0] < 0x40 }, add("n", 1), add("n", 1), del("k"), put("k", "w"), put("k", "most"))
	low := seek(t, g, "ann", upon(root), func(h api.Hash) bool { return 0x80 <= h[0] && h[0] < 0xc0 }, put("k", "low"))
	high := seek(t, g, "dan", upon(root), func(h api.Hash) bool { return 0xc0 <= h[0] }, put("k", "high"))
	heads := []api.Hash{most, high, more, low}
	expectHeld(t, g, heads, view.Held{
		Key:    "k",
		Values: []string{"low", "high", "more", "most"},
		By:     []api.Hash{low, high, more, most},
	})
	expectAt(t, g, heads, `k="low"|"high"|"more"|"most" n:2 t"xyz"`)
}

// P12.1: a count is there as soon as something was added, be it nothing, or taken away again.
func TestCounts(t *testing.T) {
	g := dag.New()
	a := write(t, g, "ann", nil, add("n", 0), add("m", 7), add("m", -7), add("o", -3))
	expectAt(t, g, upon(a), `m:0 n:0 o:-3`)
	b := write(t, g, "bob", upon(a), add("n", api.MaxBy), add("n", api.MaxBy), add("o", -api.MaxBy))
	c := write(t, g, "cid", upon(a), add("n", api.MaxBy), add("o", -api.MaxBy), del("m"), put("n", "x"))
	expectAt(t, g, upon(b, c), `n="x" m:0 n:`+strconv.Itoa(3*api.MaxBy)+` o:`+strconv.Itoa(-2*api.MaxBy-3))
	expectAt(t, g, upon(b), `m:0 n:`+strconv.Itoa(2*api.MaxBy)+` o:`+strconv.Itoa(-api.MaxBy-3))
}

// P12.1: places and lengths of what is put into a text, and cut from it.
func TestTextPlaces(t *testing.T) {
	for _, x := range []struct {
		what string
		ops  []api.Op
		want string
	}{
		{"ahead", []api.Op{ins("t", 0, "abc"), ins("t", 0, "x")}, "xabc"},
		{"within", []api.Op{ins("t", 0, "abc"), ins("t", 1, "xy")}, "axybc"},
		{"at the last place", []api.Op{ins("t", 0, "abc"), ins("t", 3, "x")}, "abcx"},
		{"one beyond the last place", []api.Op{ins("t", 0, "abc"), ins("t", 4, "x")}, "abcx"},
		{"far beyond the last place", []api.Op{ins("t", 0, "abc"), ins("t", api.MaxNumber, "x")}, "abcx"},
		{"beyond into nothing", []api.Op{ins("t", 7, "abc")}, "abc"},
		{"beyond into nothing that is left", []api.Op{ins("t", 0, "abc"), cut("t", 0, 3), ins("t", 2, "x")}, "x"},
		{"into what was just put", []api.Op{ins("t", 0, "abc"), ins("t", 1, "xy"), ins("t", 2, "z")}, "axzybc"},
		{"behind what went", []api.Op{ins("t", 0, "abc"), cut("t", 1, 1), ins("t", 1, "x")}, "axc"},
		{"behind the last when it went", []api.Op{ins("t", 0, "abc"), cut("t", 2, 1), ins("t", 9, "x")}, "abx"},
		{"cut ahead", []api.Op{ins("t", 0, "abcd"), cut("t", 0, 2)}, "cd"},
		{"cut within", []api.Op{ins("t", 0, "abcd"), cut("t", 1, 2)}, "ad"},
		{"cut to the end", []api.Op{ins("t", 0, "abcd"), cut("t", 2, 2)}, "ab"},
		{"cut beyond the end", []api.Op{ins("t", 0, "abcd"), cut("t", 2, api.MaxValue)}, "ab"},
		{"cut at the end", []api.Op{ins("t", 0, "abcd"), cut("t", 4, 1)}, "abcd"},
		{"cut far behind the end", []api.Op{ins("t", 0, "abcd"), cut("t", api.MaxNumber, api.MaxValue)}, "abcd"},
		{"cut what is not there yet", []api.Op{cut("t", 0, 4), ins("t", 0, "abcd")}, "abcd"},
		{"cut again and again", []api.Op{ins("t", 0, "abcdef"), cut("t", 1, 1), cut("t", 1, 2), cut("t", 2, 1)}, "ae"},
		{"cut over what went", []api.Op{ins("t", 0, "abcdef"), cut("t", 2, 2), cut("t", 1, 2)}, "af"},
		{"another text", []api.Op{ins("t", 0, "abc"), ins("u", 1, "xyz"), cut("u", 0, 3), ins("t", 3, "d")}, "abcd"},
	} {
		one, many := dag.New(), dag.New()
		var each []api.Hash // each operation in a change of its own
		for _, o := range x.ops {
			each = upon(write(t, many, "ann", each, o))
		}
		expectAt(t, one, upon(write(t, one, "ann", nil, x.ops...)), "t"+strconv.Quote(x.want))
		expectAt(t, many, each, "t"+strconv.Quote(x.want))
		if t.Failed() {
			t.Fatal(x.what)
		}
	}
}

// P12.1: a text's characters are bytes.
func TestTextBytes(t *testing.T) {
	g := dag.New()
	var bytes []byte
	for i := range 256 {
		bytes = append(bytes, byte(i))
	}
	a := write(t, g, "ann", nil, ins("t", 0, "ä"), ins("t", 1, string(bytes)))
	d, _ := view.At(g, upon(a))
	if want := "\xc3" + string(bytes) + "\xa4"; len(d.Texts) != 1 || d.Texts[0].Chars != want {
		t.Errorf("%q, want %q", d.Texts, want)
	}
	b := write(t, g, "ann", nil, ins("t", 0, strings.Repeat("y", api.MaxValue)), cut("t", 1, api.MaxValue))
	expectAt(t, g, upon(b), `t"y"`)
}

// P12.1, P12.2: a text of which nothing is seen is not told by At, and told by Both; one that has no characters by neither.
func TestTextsWithoutSight(t *testing.T) {
	g := dag.New()
	a := write(t, g, "ann", nil, ins("t", 0, "ab"), ins("u", 0, "c"), cut("none", 0, 5))
	b := write(t, g, "ann", upon(a), cut("t", 0, 2))
	expectAt(t, g, upon(b), `u"c"`)
	expectRows(t, g, upon(b), nil,
		view.Row{Name: "t", Chars: []view.Char{{Char: 'a', By: a}, {Char: 'b', By: a}}},
		view.Row{Name: "u", Chars: []view.Char{{Char: 'c', By: a, A: true}}})
	c := write(t, g, "cid", nil, cut("t", 0, 1))
	expectAt(t, g, upon(c), ``)
	expectRows(t, g, upon(c), upon(c))
}

// P12.2: of each character which change put it, and in which set it is seen.
func TestBoth(t *testing.T) {
	g := dag.New()
	root := write(t, g, "root", nil, ins("t", 0, "abcd"))
	a := write(t, g, "ann", upon(root), cut("t", 0, 2), ins("t", 1, "x"), ins("s", 0, "p"))
	b := write(t, g, "bob", upon(root), cut("t", 1, 2), ins("t", 0, "y"), ins("r", 0, "q"))
	on := write(t, g, "ann", upon(a, b), ins("t", 2, "z"), ins("r", 0, "o"))
	whose := map[byte]api.Hash{'p': a, 'x': a, 'q': b, 'y': b, 'o': on, 'z': on}
	row := func(name, marks string) view.Row { // behind each character A, B, 2 (both) or - (none)
		r := view.Row{Name: name}
		for i := 0; i < len(marks); i += 2 {
			c := view.Char{Char: marks[i], By: root, A: strings.Contains("A2", marks[i+1:i+2]), B: strings.Contains("B2", marks[i+1:i+2])}
			if h, there := whose[c.Char]; there {
				c.By = h
			}
			r.Chars = append(r.Chars, c)
		}
		return r
	}
	expectRows(t, g, upon(root), upon(root), row("t", "a2b2c2d2"))
	expectRows(t, g, upon(root), nil, row("t", "aAbAcAdA"))
	expectRows(t, g, nil, upon(root), row("t", "aBbBcBdB"))
	expectRows(t, g, upon(root), upon(a), row("s", "pB"), row("t", "aAbAc2xBd2"))
	expectRows(t, g, upon(a), upon(root), row("s", "pA"), row("t", "aBbBc2xAd2"))
	expectRows(t, g, upon(a), upon(b), row("r", "qB"), row("s", "pA"), row("t", "yBaBb-cAxAd2"))
	expectRows(t, g, upon(a, b), upon(b), row("r", "q2"), row("s", "pA"), row("t", "y2aBb-c-xAd2"))
	expectRows(t, g, upon(on), upon(a, b), row("r", "oAq2"), row("s", "p2"), row("t", "y2a-b-c-x2zAd2"))
	expectRows(t, g, upon(root), upon(on), row("r", "oBqB"), row("s", "pB"), row("t", "yBaAbAcAxBzBd2"))
}

// P12.3: each part plays a part, and the order of each list; none of a list and an empty one are the same.
func TestSame(t *testing.T) {
	full := func() api.Doc {
		return api.Doc{
			Entries: []api.Entry{{Key: "k", Values: []string{"v", "w"}}, {Key: "l", Values: []string{"v"}}},
			Counts:  []api.Count{{Key: "m", N: 1}, {Key: "n", N: -2}},
			Texts:   []api.Text{{Name: "t", Chars: "ab"}, {Name: "u", Chars: "c"}},
		}
	}
	if !view.Same(full(), full()) || !view.Same(api.Doc{}, api.Doc{}) {
		t.Error("the same are not the same")
	}
	empty := api.Doc{Entries: []api.Entry{}, Counts: []api.Count{}, Texts: []api.Text{}}
	if !view.Same(empty, api.Doc{}) || !view.Same(api.Doc{}, empty) {
		t.Error("an empty list is another one than none")
	}
	bare, hollow := api.Doc{Entries: []api.Entry{{Key: "k"}}}, api.Doc{Entries: []api.Entry{{Key: "k", Values: []string{}}}}
	if !view.Same(bare, hollow) || !view.Same(hollow, bare) {
		t.Error("no values and none of a list are unlike")
	}
	for what, turn := range map[string]func(d *api.Doc){
		"no entries":         func(d *api.Doc) { d.Entries = nil },
		"an entry less":      func(d *api.Doc) { d.Entries = d.Entries[:1] },
		"entries turned":     func(d *api.Doc) { slices.Reverse(d.Entries) },
		"another key":        func(d *api.Doc) { d.Entries[1].Key = "x" },
		"another value":      func(d *api.Doc) { d.Entries[0].Values[1] = "x" },
		"values turned":      func(d *api.Doc) { slices.Reverse(d.Entries[0].Values) },
		"a value less":       func(d *api.Doc) { d.Entries[0].Values = d.Entries[0].Values[:1] },
		"no values":          func(d *api.Doc) { d.Entries[1].Values = nil },
		"no counts":          func(d *api.Doc) { d.Counts = nil },
		"a count less":       func(d *api.Doc) { d.Counts = d.Counts[:1] },
		"counts turned":      func(d *api.Doc) { slices.Reverse(d.Counts) },
		"another count":      func(d *api.Doc) { d.Counts[0].N = 2 },
		"another count's":    func(d *api.Doc) { d.Counts[0].Key = "x" },
		"no texts":           func(d *api.Doc) { d.Texts = nil },
		"a text less":        func(d *api.Doc) { d.Texts = d.Texts[:1] },
		"texts turned":       func(d *api.Doc) { slices.Reverse(d.Texts) },
		"another text":       func(d *api.Doc) { d.Texts[1].Chars = "x" },
		"another text's":     func(d *api.Doc) { d.Texts[1].Name = "x" },
		"a character less":   func(d *api.Doc) { d.Texts[0].Chars = "a" },
		"nothing":            func(d *api.Doc) { *d = api.Doc{} },
		"the same key twice": func(d *api.Doc) { d.Entries[1] = d.Entries[0] },
	} {
		d := full()
		turn(&d)
		if view.Same(full(), d) || view.Same(d, full()) {
			t.Errorf("%s: the same", what)
		}
		if !view.Same(d, d) {
			t.Errorf("%s: not the same as itself", what)
		}
	}
}
