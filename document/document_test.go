package document_test

import (
	"reflect"
	"slices"
	"strconv"
	"strings"
	"testing"

	"stemma/api"
	"stemma/change"
	"stemma/dag"
	"stemma/document"
	"stemma/hashes"
	"stemma/sha"
	"stemma/view"
)

// put, add, ins and cut tell operations.
func put(key, value string) api.Op { return api.Op{Kind: api.OpPut, Name: key, Text: value} }

func add(key string, by int) api.Op { return api.Op{Kind: api.OpAdd, Name: key, By: by} }

func ins(name string, pos int, text string) api.Op {
	return api.Op{Kind: api.OpIns, Name: name, Pos: pos, Text: text}
}

func cut(name string, pos, by int) api.Op {
	return api.Op{Kind: api.OpCut, Name: name, Pos: pos, By: by}
}

// ops tells a list of operations.
func ops(l ...api.Op) []api.Op { return l }

// upon tells hashes as heads.
func upon(l ...api.Hash) []api.Hash { return hashes.Sort(l) }

// short tells the first digits of hashes.
func short(l []api.Hash) string {
	var words []string
	for _, h := range l {
		words = append(words, sha.Hex(h)[:8])
	}
	return "(" + strings.Join(words, " ") + ")"
}

// toldDoc tells a document that was checked out as a text, all of it.
func toldDoc(d api.Doc) string {
	var lines []string
	for _, k := range d.Entries {
		line := "key " + strconv.Quote(k.Key)
		for _, value := range k.Values {
			line += " " + strconv.Quote(value)
		}
		lines = append(lines, line)
	}
	for _, c := range d.Counts {
		lines = append(lines, "count "+strconv.Quote(c.Key)+" "+strconv.Itoa(c.N))
	}
	for _, x := range d.Texts {
		lines = append(lines, "text "+strconv.Quote(x.Name)+" "+strconv.Quote(x.Chars))
	}
	return strings.Join(lines, "\n")
}

// toldGraph tells all that a graph tells of itself, as a text.
func toldGraph(g *dag.Graph) string {
	order, e := g.Order(g.Heads())
	lines := []string{
		"len " + strconv.Itoa(g.Len()),
		"heads " + hashes.Text(g.Heads()),
		"waiting " + hashes.Text(g.Waiting()),
		"missing " + hashes.Text(g.Missing()),
		"order " + strconv.Itoa(int(e)) + " " + hashes.Text(order),
	}
	return strings.Join(lines, "\n")
}

// toldBranches tells branches as a text, all of each.
func toldBranches(l []api.Branch) string {
	var lines []string
	for _, b := range l {
		lines = append(lines, "branch "+strconv.Quote(b.Name)+" "+hashes.Text(b.Heads))
	}
	return strings.Join(lines, "\n")
}

// told tells a document's branches and its graph as a text.
func told(d *document.Document) string {
	return toldBranches(d.Branches()) + "\n" + toldGraph(d.Graph())
}

// expectErrno asks for an answer.
func expectErrno(t *testing.T, what string, got, want api.Errno) {
	t.Helper()
	if got != want {
		t.Errorf("%s = %d, want %d", what, int(got), int(want))
	}
}

// expectHash asks for a hash and an answer.
func expectHash(t *testing.T, what string, got api.Hash, e api.Errno, hash api.Hash, want api.Errno) {
	t.Helper()
	if got != hash || e != want {
		t.Errorf("%s = %s, %d, want %s, %d", what, sha.Hex(got)[:8], int(e), sha.Hex(hash)[:8], int(want))
	}
}

// expectRefused asks that a call answers an error and nothing else, and that it changes nothing.
func expectRefused(t *testing.T, d *document.Document, what string, want api.Errno, call func() (api.Hash, api.Errno)) {
	t.Helper()
	ahead := told(d)
	h, e := call()
	expectHash(t, what, h, e, api.Hash{}, want)
	if behind := told(d); behind != ahead {
		t.Errorf("%s is refused, and changes\n%s\nto\n%s", what, ahead, behind)
	}
}

// refuses asks that a call that answers no hash is refused, and changes nothing.
func refuses(t *testing.T, d *document.Document, what string, want api.Errno, call func() api.Errno) {
	t.Helper()
	expectRefused(t, d, what, want, func() (api.Hash, api.Errno) { return api.Hash{}, call() })
}

// commit makes a change upon a branch that takes it.
func commit(t *testing.T, d *document.Document, branch, author string, l ...api.Op) api.Hash {
	t.Helper()
	return noted(t, d, "", branch, author, l...)
}

// noted makes a change with a note.
func noted(t *testing.T, d *document.Document, note, branch, author string, l ...api.Op) api.Hash {
	t.Helper()
	h, e := d.Commit(branch, author, note, l)
	if e != api.OK || h == (api.Hash{}) {
		t.Fatalf("Commit(%s, %s) = %s, %d", branch, author, sha.Hex(h)[:8], int(e))
	}
	return h
}

// done asks that a call is not refused.
func done(t *testing.T, what string, e api.Errno) {
	t.Helper()
	if e != api.OK {
		t.Fatalf("%s = %d", what, int(e))
	}
}

// load makes a document that may be.
func load(t *testing.T, branches []api.Branch, changes [][]byte) *document.Document {
	t.Helper()
	d, e := document.Load(branches, changes)
	if e != api.OK || d == nil {
		t.Fatalf("Load of %d changes and\n%s\n= %d", len(changes), toldBranches(branches), int(e))
	}
	return d
}

// allBytes tells the bytes of all changes that are there, each behind its Deps.
func allBytes(d *document.Document) [][]byte {
	g := d.Graph()
	order, _ := g.Order(g.Heads())
	var l [][]byte
	for _, h := range order {
		b, _ := g.Bytes(h)
		l = append(l, b)
	}
	return l
}

// bytesOf tells a change's bytes.
func bytesOf(t *testing.T, d *document.Document, h api.Hash) []byte {
	t.Helper()
	b, e := d.Graph().Bytes(h)
	done(t, "Bytes", e)
	return b
}

// headsOf tells a branch's heads.
func headsOf(t *testing.T, d *document.Document, name string) []api.Hash {
	t.Helper()
	for _, b := range d.Branches() {
		if b.Name == name {
			return b.Heads
		}
	}
	t.Fatalf("no branch %s", name)
	return nil
}

// expectHeads asks for a branch's heads.
func expectHeads(t *testing.T, d *document.Document, name string, want ...api.Hash) {
	t.Helper()
	if got := headsOf(t, d, name); !slices.Equal(got, upon(want...)) {
		t.Errorf("%s is at %s, want %s", name, short(got), short(upon(want...)))
	}
}

// expectDoc asks for what a look tells.
func expectDoc(t *testing.T, what string, got api.Doc, e api.Errno, want api.Doc) {
	t.Helper()
	if e != api.OK || !view.Same(got, want) {
		t.Errorf("%s = %d\n%.2000s\nwant\n%.2000s", what, int(e), toldDoc(got), toldDoc(want))
	}
}

// expectNoDoc asks for an error and the zero document.
func expectNoDoc(t *testing.T, what string, got api.Doc, e, want api.Errno) {
	t.Helper()
	expectErrno(t, what, e, want)
	if toldDoc(got) != "" {
		t.Errorf("%s tells beside an error\n%s", what, toldDoc(got))
	}
}

// expectSays asks that a branch says just one key with these values.
func expectSays(t *testing.T, d *document.Document, branch, key string, values ...string) {
	t.Helper()
	got, e := d.Read(branch)
	expectDoc(t, "Read("+branch+")", got, e, api.Doc{Entries: []api.Entry{{Key: key, Values: values}}})
}

// expectText asks for a text of a branch.
func expectText(t *testing.T, d *document.Document, branch, name, want string) {
	t.Helper()
	got, e := d.Read(branch)
	done(t, "Read", e)
	for _, x := range got.Texts {
		if x.Name == name {
			if x.Chars != want {
				t.Errorf("%s says %s is %q, want %q", branch, name, x.Chars, want)
			}
			return
		}
	}
	t.Errorf("%s has no text %s", branch, name)
}

// noNames are texts that are no names.
func noNames() []string {
	return []string{"", "-", " ", "a b", "a/b", "a\x00", "ä", "\xff", "a,b", strings.Repeat("n", api.MaxName+1), strings.Repeat("n", 100000)}
}

// The chapter's first example.
func TestExampleOfBranches(t *testing.T) {
	d := document.New()
	commit(t, d, "main", "ann", put("k", "v"))
	expectSays(t, d, "main", "k", "v")
	done(t, "Create", d.Create("b", "main"))
	commit(t, d, "b", "bob", put("k", "w"))
	expectSays(t, d, "main", "k", "v")
	expectSays(t, d, "b", "k", "w")
	done(t, "Merge", d.Merge("main", "b"))
	expectSays(t, d, "main", "k", "w")
}

// The chapter's second example.
func TestExampleOfErrors(t *testing.T) {
	d := document.New()
	expectRefused(t, d, "Commit(x)", api.ErrBranch, func() (api.Hash, api.Errno) { return d.Commit("x", "ann", "", nil) })
	got, e := d.Checkout([]api.Hash{{}})
	expectNoDoc(t, "Checkout(the zero hash)", got, e, api.ErrUnknown)
}

// Examples of the whole: two beside one another, one upon both; texts typed beside one another; branches.
func TestExamplesOfTheWhole(t *testing.T) {
	d := document.New()
	commit(t, d, "main", "ann", ins("t", 0, "ac"))
	done(t, "Create", d.Create("b", "main"))
	commit(t, d, "main", "ann", put("k", "v"), ins("t", 1, "b"))
	commit(t, d, "b", "bob", put("k", "w"))
	expectText(t, d, "main", "t", "abc")
	expectText(t, d, "b", "t", "ac")
	done(t, "Merge", d.Merge("main", "b"))
	got, e := d.Read("main")
	if e != api.OK || len(got.Entries) != 1 || len(got.Entries[0].Values) != 2 {
		t.Errorf("two beside one another: %s", toldDoc(got))
	}
	commit(t, d, "main", "ann", put("k", "x"))
	got, e = d.Read("main")
	expectDoc(t, "upon both", got, e, api.Doc{Entries: []api.Entry{{Key: "k", Values: []string{"x"}}}, Texts: []api.Text{{Name: "t", Chars: "abc"}}})
}

// The chapter's list of calls is all that a document can be asked: what it embeds adds none.
func TestCallsOfTheChapter(t *testing.T) {
	want := []string{"Blame", "Branches", "Checkout", "Commit", "Create", "Delete", "Fork", "Graph", "Merge", "Move", "Patches", "Read", "Receive", "Track"}
	kind := reflect.TypeOf(document.New())
	var got []string
	for i := range kind.NumMethod() {
		got = append(got, kind.Method(i).Name)
	}
	if !slices.Equal(got, want) {
		t.Errorf("the methods are %v, want %v", got, want)
	}
}

// Rule 1: what a document that is nil answers.
func TestNil(t *testing.T) {
	var d *document.Document
	for _, author := range []string{"ann", ""} {
		h, e := d.Commit("main", author, "", nil)
		expectHash(t, "Commit", h, e, api.Hash{}, api.ErrNil)
	}
	for _, b := range [][]byte{nil, {1}} {
		h, e := d.Receive(b)
		expectHash(t, "Receive", h, e, api.Hash{}, api.ErrNil)
	}
	for _, name := range []string{"main", "", "x"} {
		expectErrno(t, "Create", d.Create(name, name), api.ErrNil)
		expectErrno(t, "Move", d.Move(name, nil), api.ErrNil)
		expectErrno(t, "Move", d.Move(name, []api.Hash{{}}), api.ErrNil)
		expectErrno(t, "Delete", d.Delete(name), api.ErrNil)
		expectErrno(t, "Merge", d.Merge(name, name), api.ErrNil)
		expectErrno(t, "Track", d.Track(name), api.ErrNil)
		got, e := d.Read(name)
		expectNoDoc(t, "Read", got, e, api.ErrNil)
	}
	for _, heads := range [][]api.Hash{nil, {{1}}} {
		got, e := d.Checkout(heads)
		expectNoDoc(t, "Checkout", got, e, api.ErrNil)
		patches, e := d.Patches(heads, heads)
		expectErrno(t, "Patches", e, api.ErrNil)
		marks, e := d.Blame(heads)
		expectErrno(t, "Blame", e, api.ErrNil)
		if len(patches) != 0 || len(marks) != 0 {
			t.Error("a document that is nil has patches, or marks")
		}
	}
	if len(d.Branches()) != 0 || d.Graph() != nil || d.Fork() != nil {
		t.Error("a document that is nil has branches, a graph, or a fork")
	}
}

// P16.1: a new document has no changes, and a branch main without heads.
func TestNew(t *testing.T) {
	d := document.New()
	if got := d.Branches(); len(got) != 1 || got[0].Name != "main" || len(got[0].Heads) != 0 {
		t.Errorf("Branches of a new document:\n%s", toldBranches(got))
	}
	if g := d.Graph(); g == nil || g.Len() != 0 || len(g.Waiting()) != 0 {
		t.Error("a new document has changes, or no graph")
	}
	for _, none := range [][]api.Hash{nil, {}} {
		got, e := d.Checkout(none)
		expectDoc(t, "Checkout(none)", got, e, api.Doc{})
		patches, e := d.Patches(none, none)
		expectErrno(t, "Patches(none, none)", e, api.OK)
		marks, e := d.Blame(none)
		expectErrno(t, "Blame(none)", e, api.OK)
		if len(patches) != 0 || len(marks) != 0 {
			t.Error("a new document has patches, or marks")
		}
	}
	got, e := d.Read("main")
	expectDoc(t, "Read(main)", got, e, api.Doc{})
	commit(t, d, "main", "ann", put("k", "v"))
	other := document.New() // two new ones have nothing in common
	if other.Graph().Len() != 0 || len(headsOf(t, other, "main")) != 0 {
		t.Error("a new document has what another one has")
	}
}

// small makes a document with changes of two authors: a; b and c upon a; d upon b and c; e upon c alone.
func small(t *testing.T) (d *document.Document, all map[string]api.Hash) {
	t.Helper()
	d, all = document.New(), map[string]api.Hash{}
	all["a"] = commit(t, d, "main", "ann", ins("t", 0, "abc"), put("k", "a"))
	done(t, "Create", d.Create("left", "main"))
	done(t, "Create", d.Create("right", "main"))
	all["b"] = commit(t, d, "left", "ann", ins("t", 1, "x"), put("k", "b"), add("n", 2))
	all["c"] = commit(t, d, "right", "bob", cut("t", 2, 1), put("k", "c"), add("n", 3))
	done(t, "Merge", d.Merge("main", "left"))
	done(t, "Merge", d.Merge("main", "right"))
	all["d"] = commit(t, d, "main", "bob", put("j", "d"))
	all["e"] = commit(t, d, "right", "eve", put("k", "e"))
	return d, all
}

// lay tells a change's bytes.
func lay(t *testing.T, c api.Change) []byte {
	t.Helper()
	b, e := change.Put(c)
	if e != api.OK {
		t.Fatalf("Put: %d", int(e))
	}
	return b
}

// P16.1: what is loaded is as what it was told of, and goes on like it.
func TestLoad(t *testing.T) {
	d, all := small(t)
	other := load(t, d.Branches(), allBytes(d))
	if told(other) != told(d) {
		t.Errorf("loaded:\n%s\nwant\n%s", told(other), told(d))
	}
	for name, h := range all {
		want, _ := d.Checkout(upon(h))
		got, e := other.Checkout(upon(h))
		expectDoc(t, "Checkout("+name+")", got, e, want)
	}
	for _, x := range []*document.Document{d, other} {
		commit(t, x, "right", "ann", put("z", "z"))
		done(t, "Merge", x.Merge("main", "right"))
	}
	if told(other) != told(d) {
		t.Errorf("gone on:\n%s\nwant\n%s", told(other), told(d))
	}
}

// P16.1: a document need have no branch main, nor any, and branches need not be at the last changes.
func TestLoadOfFewBranches(t *testing.T) {
	d, all := small(t)
	for _, branches := range [][]api.Branch{
		nil, {},
		{{Name: "x"}},
		{{Name: "x", Heads: upon(all["a"])}, {Name: "y", Heads: upon(all["b"], all["c"])}},
	} {
		other := load(t, branches, allBytes(d))
		if got := other.Branches(); toldBranches(got) != toldBranches(branches) {
			t.Errorf("loaded:\n%s\nwant\n%s", toldBranches(got), toldBranches(branches))
		}
		if toldGraph(other.Graph()) != toldGraph(d.Graph()) {
			t.Error("the graph is another one")
		}
		expectRefused(t, other, "Commit(main)", api.ErrBranch, func() (api.Hash, api.Errno) { return other.Commit("main", "ann", "", nil) })
	}
	empty := load(t, nil, nil)
	if len(empty.Branches()) != 0 || empty.Graph().Len() != 0 {
		t.Error("a document of nothing has something")
	}
	refuses(t, empty, "Create", api.ErrBranch, func() api.Errno { return empty.Create("main", "main") })
}

// expectNoLoad asks that Load tells ErrForm and no document.
func expectNoLoad(t *testing.T, what string, branches []api.Branch, changes [][]byte) {
	t.Helper()
	if d, e := document.Load(branches, changes); d != nil || e != api.ErrForm {
		t.Errorf("Load, %s: a document: %t, %d", what, d != nil, int(e))
	}
}

// P16.1: changes that are not there behind their Add, at each place of the list.
func TestLoadOfWrongChanges(t *testing.T) {
	d, all := small(t)
	branches, good := d.Branches(), allBytes(d)
	load(t, branches, good)
	far := lay(t, api.Change{Author: "far", Seq: 1, Start: 1, Deps: []api.Hash{{1}}})
	waits := lay(t, api.Change{Author: "far", Seq: 1, Start: 4, Deps: upon(all["a"])})
	for what, wrong := range map[string][]byte{
		"no bytes":             nil,
		"a byte":               {1},
		"a change that is cut": good[0][:len(good[0])-1],
		"a change and a byte":  append(slices.Clone(good[0]), 0),
		"one that waits":       far,
		"a Seq that is wrong":  lay(t, api.Change{Author: "ann", Seq: 9, Start: 1}),
		"a Start too low":      waits,
		"a Start too high":     lay(t, api.Change{Author: "far", Seq: 1, Start: 2}),
	} {
		for at := range len(good) + 1 {
			expectNoLoad(t, what, branches, slices.Insert(slices.Clone(good), at, wrong))
			expectNoLoad(t, what, nil, slices.Insert(slices.Clone(good), at, wrong))
		}
	}
	for at := range good {
		expectNoLoad(t, "one is lacking", branches, slices.Delete(slices.Clone(good), at, at+1))
	}
	for at := 1; at < len(good); at++ { // each has a Dep, and here it stands ahead of its Dep
		moved := slices.Insert(slices.Delete(slices.Clone(good), at, at+1), 0, good[at])
		expectNoLoad(t, "one stands ahead of its Dep, which comes", branches, moved)
	}
	nested := lay(t, api.Change{Author: "far", Seq: 1, Start: 9, Deps: upon(all["a"], all["b"])})
	expectNoLoad(t, "a Dep in the past of another one", branches, append(slices.Clone(good), nested))
}

// P16.1: a change that stands there twice is there behind its Add each time.
func TestLoadOfDoubledChanges(t *testing.T) {
	d, _ := small(t)
	good := allBytes(d)
	for at := range good {
		for behind := at; behind <= len(good); behind++ {
			other := load(t, d.Branches(), slices.Insert(slices.Clone(good), behind, good[at]))
			if told(other) != told(d) {
				t.Errorf("with change %d at %d again:\n%s\nwant\n%s", at, behind, told(other), told(d))
			}
		}
	}
}

// P16.1: branches that branch.Load does not take, and heads that are not there.
func TestLoadOfWrongBranches(t *testing.T) {
	d, all := small(t)
	good := allBytes(d)
	a, b, c := upon(all["a"]), upon(all["b"]), upon(all["b"], all["c"])
	falling := []api.Hash{c[1], c[0]}
	wrong := map[string][]api.Branch{
		"names that fall":                  {{Name: "b", Heads: a}, {Name: "a", Heads: a}},
		"a name twice":                     {{Name: "a", Heads: a}, {Name: "a", Heads: a}},
		"heads that fall":                  {{Name: "a", Heads: falling}},
		"a head twice":                     {{Name: "a", Heads: slices.Concat(a, a)}},
		"a head that is not there":         {{Name: "a", Heads: []api.Hash{{}}}},
		"a last head that is not there":    {{Name: "a", Heads: upon(all["a"], api.Hash{0xff, 0xff, 0xff, 0xff, 0xff})}},
		"a first head that is not there":   {{Name: "a", Heads: upon(all["a"], api.Hash{1})}},
		"the second's head is not there":   {{Name: "a", Heads: a}, {Name: "b", Heads: []api.Hash{{1}}}, {Name: "c", Heads: b}},
		"the last one's head is not there": {{Name: "a", Heads: a}, {Name: "b", Heads: b}, {Name: "c", Heads: []api.Hash{{1}}}},
	}
	for _, name := range noNames() {
		wrong["the name "+strconv.Quote(name)[:min(20, len(name)+2)]] = []api.Branch{{Name: name, Heads: a}}
	}
	for what, branches := range wrong {
		expectNoLoad(t, what, branches, good)
	}
	expectNoLoad(t, "heads without changes", []api.Branch{{Name: "a", Heads: a}}, nil)
	expectNoLoad(t, "heads of a change that is not among them", []api.Branch{{Name: "a", Heads: b}}, good[:1])
}

// manyBranches tells n branches with the same heads.
func manyBranches(n int, heads []api.Hash) []api.Branch {
	var l []api.Branch
	for i := range n {
		l = append(l, api.Branch{Name: "b" + strconv.Itoa(1000+i), Heads: heads})
	}
	return l
}

// roots makes a document with n changes that have no Deps, and tells them; main is at the last one.
func roots(t *testing.T, n int) (*document.Document, []api.Hash) {
	t.Helper()
	d := document.New()
	done(t, "Create", d.Create("none", "main"))
	var l []api.Hash
	for i := range n {
		done(t, "Move", d.Move("main", nil))
		l = append(l, commit(t, d, "main", "a"+strconv.Itoa(i), put("k", strconv.Itoa(i))))
	}
	return d, l
}

// P16.1: as many branches, and as many heads of a branch, as there may be.
func TestLoadOfMany(t *testing.T) {
	d, l := roots(t, api.MaxDeps+1)
	good := allBytes(d)
	load(t, manyBranches(api.MaxBranches, upon(l[0])), good)
	expectNoLoad(t, "too many branches", manyBranches(api.MaxBranches+1, upon(l[0])), good)
	heads := upon(l...)
	other := load(t, manyBranches(1, heads[1:]), good)
	if got, e := other.Read("b1000"); e != api.OK || len(got.Entries) != 1 || len(got.Entries[0].Values) != api.MaxDeps {
		t.Errorf("Read of many heads: %d\n%s", int(e), toldDoc(got))
	}
	expectNoLoad(t, "too many heads", manyBranches(1, heads), good)
}

// P16.1, P16.2: a branch that was loaded may have heads of which one is in the past of another one; a change upon
// such heads does not fit.
func TestLoadOfHeadsInOneAnothersPast(t *testing.T) {
	d, all := small(t)
	both := upon(all["a"], all["b"])
	x := load(t, []api.Branch{{Name: "x", Heads: both}, {Name: "y", Heads: both}}, allBytes(d))
	expectHeads(t, x, "x", both...)
	want, _ := d.Checkout(upon(all["b"]))
	got, e := x.Read("x")
	expectDoc(t, "Read(x)", got, e, want)
	expectRefused(t, x, "Commit", api.ErrDeps, func() (api.Hash, api.Errno) { return x.Commit("x", "ann", "", nil) })
	done(t, "Create", x.Create("z", "x"))
	expectHeads(t, x, "z", both...)
	done(t, "Merge", x.Merge("x", "y"))
	expectHeads(t, x, "x", all["b"])
	done(t, "Merge", x.Merge("y", "y"))
	expectHeads(t, x, "y", all["b"])
	done(t, "Move", x.Move("z", both))
	expectHeads(t, x, "z", all["b"])
	commit(t, x, "z", "ann", put("k", "z"))
}
