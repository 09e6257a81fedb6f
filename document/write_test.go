package document_test

import (
	"slices"
	"strconv"
	"strings"
	"testing"

	"stemma/api"
	"stemma/change"
	"stemma/document"
)

// changeOf tells a change that is there.
func changeOf(t *testing.T, d *document.Document, h api.Hash) api.Change {
	t.Helper()
	c, e := change.Get(bytesOf(t, d, h))
	done(t, "Get", e)
	return c
}

// toldChange tells a change as a text, but for its operations.
func toldChange(c api.Change) string {
	return c.Author + " " + strconv.Itoa(c.Seq) + " " + strconv.Itoa(c.Start) + " " + short(c.Deps) + " " + strconv.Quote(c.Note) + ", " + strconv.Itoa(len(c.Ops)) + " ops"
}

// expectChange asks for a change that is there.
func expectChange(t *testing.T, d *document.Document, h api.Hash, want api.Change) {
	t.Helper()
	if got := changeOf(t, d, h); !change.Same(got, want) || h != change.Hash(want) {
		t.Errorf("the change is %s\nwant %s, or its operations are others", toldChange(got), toldChange(want))
	}
}

// P16.2: a change is of the author, with the note and the operations, upon the branch's heads, with the next numbers.
func TestCommit(t *testing.T) {
	d := document.New()
	first := noted(t, d, "the first", "main", "ann", ins("t", 0, "abc"), put("k", "v"))
	expectChange(t, d, first, api.Change{Author: "ann", Seq: 1, Start: 1, Note: "the first", Ops: ops(ins("t", 0, "abc"), put("k", "v"))})
	expectHeads(t, d, "main", first)
	second := noted(t, d, "", "main", "ann")
	expectChange(t, d, second, api.Change{Author: "ann", Seq: 2, Start: 5, Deps: upon(first)})
	third := noted(t, d, strings.Repeat("n", api.MaxValue), "main", "bob", add("n", -7))
	expectChange(t, d, third, api.Change{Author: "bob", Seq: 1, Start: 5, Deps: upon(second), Note: strings.Repeat("n", api.MaxValue), Ops: ops(add("n", -7))})
	expectHeads(t, d, "main", third)
	if g := d.Graph(); g.Len() != 3 || len(g.Waiting()) != 0 {
		t.Errorf("%d are there, %d wait", g.Len(), len(g.Waiting()))
	}
}

// P16.2: the next numbers go by the branch's past alone, and so does what the change is upon.
func TestCommitUponBranches(t *testing.T) {
	d := document.New()
	root := commit(t, d, "main", "ann", put("k", "v"))
	done(t, "Create", d.Create("b", "main"))
	done(t, "Create", d.Create("c", "main"))
	one := commit(t, d, "b", "ann", ins("t", 0, "xyz"))
	expectChange(t, d, one, api.Change{Author: "ann", Seq: 2, Start: 2, Deps: upon(root), Ops: ops(ins("t", 0, "xyz"))})
	two := commit(t, d, "c", "ann", put("k", "w"))
	expectChange(t, d, two, api.Change{Author: "ann", Seq: 2, Start: 2, Deps: upon(root), Ops: ops(put("k", "w"))})
	expectHeads(t, d, "main", root)
	expectHeads(t, d, "b", one)
	expectHeads(t, d, "c", two)
	done(t, "Merge", d.Merge("b", "c"))
	expectHeads(t, d, "b", one, two)
	three := commit(t, d, "b", "bob")
	expectChange(t, d, three, api.Change{Author: "bob", Seq: 1, Start: 5, Deps: upon(one, two)})
	expectHeads(t, d, "b", three)
	expectHeads(t, d, "c", two)
	four := commit(t, d, "b", "ann")
	expectChange(t, d, four, api.Change{Author: "ann", Seq: 3, Start: 5, Deps: upon(three)})
}

// P16.2: as many heads as a branch may have are as many Deps.
func TestCommitUponManyHeads(t *testing.T) {
	d, l := roots(t, api.MaxDeps)
	done(t, "Move", d.Move("main", l))
	top := commit(t, d, "main", "top", put("k", "top"))
	expectChange(t, d, top, api.Change{Author: "top", Seq: 1, Start: 2, Deps: upon(l...), Ops: ops(put("k", "top"))})
	expectSays(t, d, "main", "k", "top")
}

// tooLong tells operations whose bytes are too many for a change.
func tooLong() []api.Op {
	var l []api.Op
	for range 70 {
		l = append(l, put("k", strings.Repeat("v", api.MaxValue)))
	}
	return l
}

// P16.2: each error, and which comes first.
func TestCommitErrors(t *testing.T) {
	d, _ := small(t)
	longNote := strings.Repeat("n", api.MaxValue+1)
	wrong, many := ops(put("a b", "v")), make([]api.Op, api.MaxOps+1)
	for i := range many {
		many[i] = put("k", "v")
	}
	for _, x := range []struct {
		what, branch, author, note string
		ops                        []api.Op
		want                       api.Errno
	}{
		{"no such branch", "x", "ann", "", nil, api.ErrBranch},
		{"no such branch, and all else wrong", "x", "", longNote, wrong, api.ErrBranch},
		{"no name of a branch", "", "ann", "", nil, api.ErrBranch},
		{"a note too long", "main", "ann", longNote, nil, api.ErrLong},
		{"a note too long and a wrong operation", "main", "ann", longNote, wrong, api.ErrLong},
		{"a wrong operation", "main", "ann", "", wrong, api.ErrOp},
		{"a kind that is none", "main", "ann", "", ops(api.Op{Kind: 9, Name: "k"}), api.ErrOp},
		{"a right operation and a wrong one", "main", "ann", "", append(ops(put("k", "v")), wrong...), api.ErrOp},
		{"too many operations", "main", "ann", "", many, api.ErrLong},
		{"too many bytes", "main", "ann", "", tooLong(), api.ErrLong},
	} {
		expectRefused(t, d, x.what, x.want, func() (api.Hash, api.Errno) { return d.Commit(x.branch, x.author, x.note, x.ops) })
	}
	for _, name := range noNames() {
		expectRefused(t, d, "no name", api.ErrName, func() (api.Hash, api.Errno) { return d.Commit("main", name, "", nil) })
		expectRefused(t, d, "no name, and all behind it wrong", api.ErrName, func() (api.Hash, api.Errno) { return d.Commit("main", name, longNote, wrong) })
		expectRefused(t, d, "no branch", api.ErrBranch, func() (api.Hash, api.Errno) { return d.Commit(name, "ann", "", nil) })
	}
	commit(t, d, "main", "ann", many[:api.MaxOps]...)
}

// P16.2: what was said already is there, whoever said it, and the branch is at it.
func TestCommitOfWhatIsThere(t *testing.T) {
	d := document.New()
	done(t, "Create", d.Create("b", "main"))
	done(t, "Create", d.Create("c", "main"))
	one := commit(t, d, "main", "ann", put("k", "v"))
	two := commit(t, d, "main", "bob", put("k", "w"))
	if again := commit(t, d, "b", "ann", put("k", "v")); again != one {
		t.Error("the same change has another hash")
	}
	expectHeads(t, d, "b", one)
	expectHeads(t, d, "main", two)
	expectSays(t, d, "b", "k", "v")
	if unlike := noted(t, d, "n", "c", "ann", put("k", "v")); unlike == one {
		t.Error("another change has the same hash")
	}
	if again := commit(t, d, "b", "bob", put("k", "w")); again != two {
		t.Error("the same change has another hash")
	}
	if n := d.Graph().Len(); n != 3 {
		t.Errorf("%d changes are there", n)
	}
	other := document.New()
	if h, e := other.Receive(bytesOf(t, d, one)); h != one || e != api.OK {
		t.Fatalf("Receive = %d", int(e))
	}
	expectHeads(t, other, "main")
	if again := commit(t, other, "main", "ann", put("k", "v")); again != one {
		t.Error("the same change has another hash")
	}
	expectHeads(t, other, "main", one)
}

// P16.2: a change that others wait for brings them there.
func TestCommitOfWhatOthersWaitFor(t *testing.T) {
	d := document.New()
	other := d.Fork()
	one := commit(t, d, "main", "ann", put("k", "v"))
	two := commit(t, d, "main", "bob", put("k", "w"))
	if h, e := other.Receive(bytesOf(t, d, two)); h != two || e != api.OK {
		t.Fatalf("Receive = %d", int(e))
	}
	if g := other.Graph(); g.Len() != 0 || !slices.Equal(g.Missing(), upon(one)) {
		t.Fatal("it does not wait")
	}
	commit(t, other, "main", "ann", put("k", "v"))
	expectHeads(t, other, "main", one)
	if g := other.Graph(); g.Len() != 2 || len(g.Waiting()) != 0 {
		t.Errorf("%d are there, %d wait", g.Len(), len(g.Waiting()))
	}
	expectSays(t, other, "main", "k", "v")
	got, e := other.Checkout(upon(two))
	expectDoc(t, "Checkout", got, e, api.Doc{Entries: []api.Entry{{Key: "k", Values: []string{"w"}}}})
}

// full makes a document with as many changes as there may be: each upon the one ahead, main at the last one, and the
// branch early at the first one.
func full(t *testing.T) *document.Document {
	t.Helper()
	d := document.New()
	commit(t, d, "main", "ann", put("k", "v"))
	done(t, "Create", d.Create("early", "main"))
	for i := 1; i < api.MaxChanges; i++ {
		commit(t, d, "main", "ann", put("k", strconv.Itoa(i)))
	}
	return d
}

// P16.2, P16.3: at most MaxChanges changes are there; what is there already may be said again.
func TestFull(t *testing.T) {
	d := full(t)
	if n := d.Graph().Len(); n != api.MaxChanges {
		t.Fatalf("%d changes are there", n)
	}
	expectRefused(t, d, "Commit(main)", api.ErrFull, func() (api.Hash, api.Errno) { return d.Commit("main", "ann", "", nil) })
	expectRefused(t, d, "Commit(early)", api.ErrFull, func() (api.Hash, api.Errno) { return d.Commit("early", "bob", "", nil) })
	expectRefused(t, d, "Commit(x)", api.ErrBranch, func() (api.Hash, api.Errno) { return d.Commit("x", "ann", "", nil) })
	expectRefused(t, d, "Commit of no name", api.ErrName, func() (api.Hash, api.Errno) { return d.Commit("main", "", "", nil) })
	expectRefused(t, d, "Commit of no operation", api.ErrOp, func() (api.Hash, api.Errno) { return d.Commit("main", "ann", "", ops(api.Op{})) })
	more := lay(t, api.Change{Author: "zoe", Seq: 1, Start: 1})
	expectRefused(t, d, "Receive", api.ErrFull, func() (api.Hash, api.Errno) { return d.Receive(more) })
	second := commit(t, d, "early", "ann", put("k", "1"))
	expectHeads(t, d, "early", second)
	expectSays(t, d, "early", "k", "1")
	expectSays(t, d, "main", "k", strconv.Itoa(api.MaxChanges-1))
	good := allBytes(d)
	load(t, d.Branches(), good)
	load(t, d.Branches(), append(slices.Clone(good), good[0]))
	expectNoLoad(t, "too many changes", d.Branches(), append(slices.Clone(good), more))
}

// P16.3: what is received is there, or waits, and no branch moves.
func TestReceive(t *testing.T) {
	d, all := small(t)
	other := document.New()
	for _, x := range []struct {
		name        string
		len, waits  int
		heads, lack []string
	}{
		{"d", 0, 1, nil, []string{"b", "c"}},
		{"b", 0, 2, nil, []string{"a", "c"}},
		{"a", 2, 1, []string{"b"}, []string{"c"}},
		{"e", 2, 2, []string{"b"}, []string{"c"}},
		{"c", 5, 0, []string{"d", "e"}, nil},
	} {
		b := bytesOf(t, d, all[x.name])
		h, e := other.Receive(b)
		expectHash(t, "Receive of "+x.name, h, e, all[x.name], api.OK)
		g := other.Graph()
		var heads, lack []api.Hash
		for _, name := range x.heads {
			heads = append(heads, all[name])
		}
		for _, name := range x.lack {
			lack = append(lack, all[name])
		}
		if g.Len() != x.len || len(g.Waiting()) != x.waits || !slices.Equal(g.Heads(), upon(heads...)) || !slices.Equal(g.Missing(), upon(lack...)) {
			t.Errorf("behind %s:\n%s", x.name, toldGraph(g))
		}
		h, e = other.Receive(b)
		expectHash(t, "Receive again of "+x.name, h, e, all[x.name], api.ErrThere)
		expectHeads(t, other, "main")
		got, e := other.Read("main")
		expectDoc(t, "Read(main)", got, e, api.Doc{})
	}
	for name, h := range all {
		want, _ := d.Checkout(upon(h))
		got, e := other.Checkout(upon(h))
		expectDoc(t, "Checkout("+name+")", got, e, want)
	}
}

// P16.3: what dag refuses.
func TestReceiveErrors(t *testing.T) {
	d, all := small(t)
	good := bytesOf(t, d, all["b"])
	for what, x := range map[string]struct {
		b    []byte
		want api.Errno
	}{
		"nothing":              {nil, api.ErrForm},
		"a change that is cut": {good[:len(good)-1], api.ErrForm},
		"a change and a byte":  {append(slices.Clone(good), 0), api.ErrForm},
		"more than a change":   {make([]byte, api.MaxChange+1), api.ErrForm},
		"nested Deps":          {lay(t, api.Change{Author: "z", Seq: 1, Start: 9, Deps: upon(all["a"], all["b"])}), api.ErrDeps},
		"a wrong Seq":          {lay(t, api.Change{Author: "z", Seq: 2, Start: 1}), api.ErrSeq},
		"a wrong Start":        {lay(t, api.Change{Author: "z", Seq: 1, Start: 2}), api.ErrStart},
	} {
		expectRefused(t, d, what, x.want, func() (api.Hash, api.Errno) { return d.Receive(x.b) })
	}
	for i := range api.MaxPending {
		_, e := d.Receive(lay(t, api.Change{Author: "z", Seq: 1, Start: 1, Deps: []api.Hash{{byte(i)}}}))
		done(t, "Receive", e)
	}
	one := lay(t, api.Change{Author: "y", Seq: 1, Start: 1, Deps: []api.Hash{{1}}})
	expectRefused(t, d, "one more that waits", api.ErrPending, func() (api.Hash, api.Errno) { return d.Receive(one) })
	ahead := told(d)
	h, e := d.Receive(good)
	expectHash(t, "Receive of what is there", h, e, all["b"], api.ErrThere)
	if told(d) != ahead {
		t.Error("what is there already changes something")
	}
}
