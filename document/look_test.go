package document_test

import (
	"slices"
	"strconv"
	"strings"
	"testing"

	"stemma/api"
	"stemma/blame"
	"stemma/document"
	"stemma/patch"
	"stemma/view"
)

// toldPatches tells patches as a text, all fields of each.
func toldPatches(l []api.Patch) string {
	var lines []string
	for _, p := range l {
		line := strconv.Itoa(p.Kind) + " " + strconv.Quote(p.Name) + " " + strconv.Quote(strings.Join(p.Values, "\x00")) + " " + strconv.Itoa(p.By) +
			" " + strconv.FormatBool(p.Gone) + " " + strconv.Itoa(p.At) + " " + strconv.Itoa(p.Cut) + " " + strconv.Quote(p.Put) + " " + short(p.From)
		lines = append(lines, line)
	}
	return strings.Join(lines, "\n")
}

// expectLooks asks that what a document tells at some heads, and from others to them, is what its graph tells.
func expectLooks(t *testing.T, d *document.Document, from, heads []api.Hash) {
	t.Helper()
	g := d.Graph()
	doc, e := view.At(g, heads)
	done(t, "At", e)
	got, e := d.Checkout(heads)
	expectDoc(t, "Checkout"+short(heads), got, e, doc)
	wantMarks, e := blame.Of(g, heads)
	done(t, "Of", e)
	marks, e := d.Blame(heads)
	if e != api.OK || !slices.Equal(marks, wantMarks) {
		t.Errorf("Blame%s = %v, %d\nwant %v", short(heads), marks, int(e), wantMarks)
	}
	wantPatches, e := patch.Between(g, from, heads)
	done(t, "Between", e)
	patches, e := d.Patches(from, heads)
	if e != api.OK || !patch.Same(patches, wantPatches) {
		t.Errorf("Patches(%s, %s) = %d\n%s\nwant\n%s", short(from), short(heads), int(e), toldPatches(patches), toldPatches(wantPatches))
	}
	was, e := d.Checkout(from)
	done(t, "Checkout", e)
	is, e := patch.Apply(was, patches)
	expectDoc(t, "Apply", is, e, doc)
}

// P16.5: Checkout, Patches and Blame at all heads of a small document, worked out by hand where they are short.
func TestLooks(t *testing.T) {
	d, all := small(t)
	lists := [][]api.Hash{nil, {all["a"]}, {all["b"]}, {all["c"]}, {all["d"]}, {all["e"]}, {all["b"], all["c"]}, {all["c"], all["b"]},
		{all["e"], all["d"]}, {all["a"], all["e"], all["a"], all["b"]}}
	for range 2 { // what was checked out once is told again
		for _, from := range lists {
			for _, heads := range lists {
				expectLooks(t, d, from, heads)
			}
		}
	}
	got, e := d.Checkout(upon(all["e"]))
	expectDoc(t, "Checkout(e)", got, e, api.Doc{
		Entries: []api.Entry{{Key: "k", Values: []string{"e"}}},
		Counts:  []api.Count{{Key: "n", N: 3}},
		Texts:   []api.Text{{Name: "t", Chars: "ab"}},
	})
	got, e = d.Checkout(upon(all["d"]))
	if e != api.OK || len(got.Entries) != 2 || len(got.Entries[1].Values) != 2 {
		t.Fatalf("Checkout(d) = %d\n%s", int(e), toldDoc(got))
	}
	expectDoc(t, "Checkout(d)", got, e, api.Doc{
		Entries: []api.Entry{{Key: "j", Values: []string{"d"}}, {Key: "k", Values: got.Entries[1].Values}},
		Counts:  []api.Count{{Key: "n", N: 5}},
		Texts:   []api.Text{{Name: "t", Chars: "axb"}},
	})
	patches, e := d.Patches(upon(all["a"]), upon(all["e"]))
	want := []api.Patch{
		{Kind: api.PatchKey, Name: "k", Values: []string{"e"}, From: upon(all["e"])},
		{Kind: api.PatchCount, Name: "n", By: 3},
		{Kind: api.PatchText, Name: "t", At: 2, Cut: 1},
	}
	if e != api.OK || !patch.Same(patches, want) {
		t.Errorf("Patches(a, e) = %d\n%s", int(e), toldPatches(patches))
	}
	marks, e := d.Blame(upon(all["b"]))
	wantMarks := []api.Mark{
		{Kind: api.PatchKey, Name: "k", By: all["b"]}, {Kind: api.PatchText, Name: "t", By: all["a"]}, {Kind: api.PatchText, Name: "t", At: 1, By: all["b"]},
		{Kind: api.PatchText, Name: "t", At: 2, By: all["a"]}, {Kind: api.PatchText, Name: "t", At: 3, By: all["a"]},
	}
	if e != api.OK || !slices.Equal(marks, wantMarks) {
		t.Errorf("Blame(b) = %v, %d", marks, int(e))
	}
}

// P16.5: heads that are not there, wherever they stand, and branches that are not.
func TestLookErrors(t *testing.T) {
	d, all := small(t)
	waits, e := d.Receive(lay(t, api.Change{Author: "z", Seq: 1, Start: 1, Deps: []api.Hash{{1}}}))
	done(t, "Receive", e)
	good := upon(all["a"], all["b"])
	for _, wrong := range [][]api.Hash{{{}}, {waits}, {all["a"], {}}, {{}, all["a"]}, {all["d"], all["e"], waits}} {
		for range 2 {
			got, e := d.Checkout(wrong)
			expectNoDoc(t, "Checkout", got, e, api.ErrUnknown)
		}
		marks, e := d.Blame(wrong)
		expectErrno(t, "Blame", e, api.ErrUnknown)
		for _, x := range [][2][]api.Hash{{wrong, good}, {good, wrong}, {wrong, wrong}, {nil, wrong}, {wrong, nil}} {
			patches, e := d.Patches(x[0], x[1])
			expectErrno(t, "Patches", e, api.ErrUnknown)
			if len(patches)+len(marks) != 0 {
				t.Error("patches, or marks, beside an error")
			}
		}
	}
	for _, name := range append(noNames(), "x") {
		got, e := d.Read(name)
		expectNoDoc(t, "Read", got, e, api.ErrBranch)
	}
}

// P16.5, P16.6: what was not there is there once it came; what was told once is told again.
func TestCheckoutOfWhatComes(t *testing.T) {
	d, all := small(t)
	other := document.New()
	both := upon(all["b"], all["c"])
	want, _ := d.Checkout(both)
	for _, name := range []string{"b", "c"} {
		_, e := other.Receive(bytesOf(t, d, all[name]))
		done(t, "Receive", e)
		got, e := other.Checkout(both)
		expectNoDoc(t, "Checkout", got, e, api.ErrUnknown)
	}
	_, e := other.Receive(bytesOf(t, d, all["a"]))
	done(t, "Receive", e)
	got, e := other.Checkout(both)
	expectDoc(t, "Checkout", got, e, want)
	for _, name := range []string{"e", "d"} {
		_, e := other.Receive(bytesOf(t, d, all[name]))
		done(t, "Receive", e)
		got, e := other.Checkout(both)
		expectDoc(t, "Checkout behind "+name, got, e, want)
	}
	done(t, "Track", other.Track("main"))
	want, _ = d.Checkout(upon(all["d"], all["e"]))
	got, e = other.Read("main")
	expectDoc(t, "Read", got, e, want)
}

// P16.5: Read is at where the branch is by now.
func TestReadFollowsTheBranch(t *testing.T) {
	d := document.New()
	for i := range 20 {
		h := commit(t, d, "main", "ann", put("k", strconv.Itoa(i)))
		expectSays(t, d, "main", "k", strconv.Itoa(i))
		if i == 10 {
			done(t, "Create", d.Create("b", "main"))
		}
		got, e := d.Checkout(upon(h))
		want, _ := d.Read("main")
		expectDoc(t, "Checkout", got, e, want)
	}
	expectSays(t, d, "b", "k", "10")
	done(t, "Move", d.Move("main", headsOf(t, d, "b")))
	expectSays(t, d, "main", "k", "10")
	done(t, "Move", d.Move("main", nil))
	got, e := d.Read("main")
	expectDoc(t, "Read", got, e, api.Doc{})
}

// P16.5: the graph that is told is one of its own.
func TestGraphIsAFork(t *testing.T) {
	d, all := small(t)
	waits := lay(t, api.Change{Author: "z", Seq: 1, Start: 1, Deps: []api.Hash{{1}}})
	_, e := d.Receive(waits)
	done(t, "Receive", e)
	ahead := told(d)
	g := d.Graph()
	if toldGraph(g) != toldGraph(d.Graph()) || g.Len() != len(all) || len(g.Waiting()) != 1 {
		t.Errorf("Graph:\n%s", toldGraph(g))
	}
	h, e := g.Add(lay(t, api.Change{Author: "y", Seq: 1, Start: 1}))
	done(t, "Add", e)
	if told(d) != ahead {
		t.Error("what came to a graph that was told came to the document")
	}
	_, e = d.Checkout(upon(h))
	expectErrno(t, "Checkout", e, api.ErrUnknown)
	was := toldGraph(g)
	commit(t, d, "main", "ann")
	if toldGraph(g) != was {
		t.Error("what came to the document came to a graph that was told")
	}
}

// P16.5: a fork is as the document, and neither changes with the other.
func TestFork(t *testing.T) {
	d, all := small(t)
	waits := lay(t, api.Change{Author: "z", Seq: 1, Start: 1, Deps: []api.Hash{{1}}})
	_, e := d.Receive(waits)
	done(t, "Receive", e)
	for name := range all {
		_, e := d.Checkout(upon(all[name]))
		done(t, "Checkout", e)
	}
	fork := d.Fork()
	was := told(d)
	if told(fork) != was {
		t.Fatalf("the fork is\n%s\nwant\n%s", told(fork), was)
	}
	for _, x := range []struct{ one, other *document.Document }{{d, fork.Fork()}, {fork, d.Fork()}, {d.Fork(), fork}} {
		ahead := told(x.other)
		one := x.one.Fork()
		h := commit(t, one, "main", "ann", put("k", "forked"))
		done(t, "Create", one.Create("new", "left"))
		done(t, "Merge", one.Merge("left", "right"))
		done(t, "Delete", one.Delete("right"))
		_, e := one.Receive(lay(t, api.Change{Author: "y", Seq: 1, Start: 1}))
		done(t, "Receive", e)
		_, e = one.Checkout(upon(h))
		done(t, "Checkout", e)
		if told(x.other) != ahead || told(x.one) != ahead {
			t.Error("what was done with a fork was done with another document")
		}
		_, e = x.one.Checkout(upon(h))
		expectErrno(t, "Checkout of what a fork has", e, api.ErrUnknown)
		_, e = x.other.Checkout(upon(h))
		expectErrno(t, "Checkout of what a fork has", e, api.ErrUnknown)
	}
	x, y := commit(t, d, "right", "eve", put("k", "f")), commit(t, fork, "right", "eve", put("k", "f"))
	if x != y || told(d) != told(fork) {
		t.Error("a fork goes on in another way")
	}
}

// P16.6: each of many changes says what it said, whatever was checked out beside it.
func TestManyCheckouts(t *testing.T) {
	d, l := roots(t, 1000)
	for range 2 {
		for i, h := range l {
			got, e := d.Checkout(upon(h))
			expectDoc(t, "Checkout", got, e, api.Doc{Entries: []api.Entry{{Key: "k", Values: []string{strconv.Itoa(i)}}}})
		}
	}
}

// P16.6: what is said of documents so long that not all checkouts are held on to.
func TestLongCheckouts(t *testing.T) {
	if testing.Short() {
		t.Skip("it takes seconds")
	}
	d := document.New()
	var hs []api.Hash
	var wants []string
	long := make([]api.Op, 60)
	for i := range 6 {
		for k := range long {
			long[k] = ins("t", 0, strings.Repeat(string(rune('a'+i)), api.MaxValue))
		}
		hs = append(hs, commit(t, d, "main", "ann", long...))
		wants = append(wants, strings.Repeat(string(rune('a'+i)), api.MaxValue*len(long))+strings.Join(wants[max(0, i-1):], ""))
	}
	for range 2 {
		for i, h := range hs {
			for range 2 {
				got, e := d.Checkout(upon(h))
				if e != api.OK || len(got.Texts) != 1 || got.Texts[0].Chars != wants[i] {
					t.Fatalf("Checkout of change %d is another one", i)
				}
			}
		}
	}
}
