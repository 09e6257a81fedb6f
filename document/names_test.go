package document_test

import (
	"slices"
	"strconv"
	"testing"

	"stemma/api"
	"stemma/document"
	"stemma/view"
)

// P16.4: a branch is made where another one is.
func TestCreate(t *testing.T) {
	d, all := small(t)
	done(t, "Create", d.Create("new", "left"))
	expectHeads(t, d, "new", all["b"])
	done(t, "Create", d.Create("newer", "new"))
	commit(t, d, "new", "ann")
	expectHeads(t, d, "newer", all["b"])
	expectHeads(t, d, "left", all["b"])
	empty := document.New()
	done(t, "Create", empty.Create("x", "main"))
	expectHeads(t, empty, "x")
	done(t, "Merge", d.Merge("left", "right"))
	done(t, "Create", d.Create("both", "left"))
	expectHeads(t, d, "both", all["b"], all["e"])
}

// P16.4: each error of Create, and which comes first.
func TestCreateErrors(t *testing.T) {
	d, _ := small(t)
	refuses(t, d, "no such branch", api.ErrBranch, func() api.Errno { return d.Create("new", "x") })
	refuses(t, d, "no such branch, and the name is there", api.ErrBranch, func() api.Errno { return d.Create("main", "x") })
	refuses(t, d, "neither is there", api.ErrBranch, func() api.Errno { return d.Create("x", "x") })
	refuses(t, d, "it is there", api.ErrThere, func() api.Errno { return d.Create("left", "main") })
	refuses(t, d, "it is there, and is the other one", api.ErrThere, func() api.Errno { return d.Create("left", "left") })
	for _, name := range noNames() {
		refuses(t, d, "no name", api.ErrName, func() api.Errno { return d.Create(name, "main") })
		refuses(t, d, "no name and no branch", api.ErrBranch, func() api.Errno { return d.Create(name, "x") })
		refuses(t, d, "from no name", api.ErrBranch, func() api.Errno { return d.Create("new", name) })
	}
	for i := range api.MaxBranches - 3 {
		done(t, "Create", d.Create("b"+strconv.Itoa(i), "main"))
	}
	refuses(t, d, "no room", api.ErrFull, func() api.Errno { return d.Create("new", "main") })
	refuses(t, d, "no room, but it is there", api.ErrThere, func() api.Errno { return d.Create("left", "main") })
	refuses(t, d, "no room and no name", api.ErrName, func() api.Errno { return d.Create("", "main") })
	refuses(t, d, "no room and no branch", api.ErrBranch, func() api.Errno { return d.Create("new", "x") })
	done(t, "Delete", d.Delete("left"))
	done(t, "Create", d.Create("new", "main"))
}

// P16.4: a branch is given heads in whatever form: it has those that are in no other one's past.
func TestMove(t *testing.T) {
	d, all := small(t)
	one, left, right, both, last := all["a"], all["b"], all["c"], all["d"], all["e"]
	for _, x := range []struct{ heads, want []api.Hash }{
		{nil, nil},
		{[]api.Hash{one}, upon(one)},
		{[]api.Hash{one, one, one}, upon(one)},
		{[]api.Hash{left, right}, upon(left, right)},
		{[]api.Hash{right, left}, upon(left, right)},
		{[]api.Hash{one, left}, upon(left)},
		{[]api.Hash{left, one}, upon(left)},
		{[]api.Hash{one, left, right, both, last, left}, upon(both, last)},
		{[]api.Hash{last, both}, upon(both, last)},
		{[]api.Hash{}, nil},
		{[]api.Hash{right}, upon(right)},
	} {
		done(t, "Move", d.Move("main", x.heads))
		expectHeads(t, d, "main", x.want...)
		want, _ := d.Checkout(x.heads)
		got, e := d.Read("main")
		expectDoc(t, "Read", got, e, want)
		expectHeads(t, d, "left", left)
		expectHeads(t, d, "right", all["e"])
	}
	h := commit(t, d, "main", "ann")
	expectChange(t, d, h, api.Change{Author: "ann", Seq: 2, Start: 8, Deps: upon(right)})
}

// P16.4: each error of Move, and which comes first.
func TestMoveErrors(t *testing.T) {
	d, l := roots(t, api.MaxDeps+1)
	waits := lay(t, api.Change{Author: "z", Seq: 1, Start: 2, Deps: []api.Hash{{1}}})
	w, e := d.Receive(waits)
	done(t, "Receive", e)
	for _, name := range append(noNames(), "x") {
		refuses(t, d, "no such branch", api.ErrBranch, func() api.Errno { return d.Move(name, nil) })
		refuses(t, d, "no such branch and no such head", api.ErrBranch, func() api.Errno { return d.Move(name, []api.Hash{{}}) })
		refuses(t, d, "no such branch and too many heads", api.ErrBranch, func() api.Errno { return d.Move(name, l) })
	}
	refuses(t, d, "the zero hash", api.ErrUnknown, func() api.Errno { return d.Move("main", []api.Hash{{}}) })
	refuses(t, d, "one that waits", api.ErrUnknown, func() api.Errno { return d.Move("main", []api.Hash{w}) })
	refuses(t, d, "the last is not there", api.ErrUnknown, func() api.Errno { return d.Move("main", append(slices.Clone(l[:2]), api.Hash{9})) })
	refuses(t, d, "too many, and one that is not there", api.ErrUnknown, func() api.Errno { return d.Move("main", append(slices.Clone(l), api.Hash{9})) })
	refuses(t, d, "too many", api.ErrDeps, func() api.Errno { return d.Move("main", l) })
	done(t, "Move", d.Move("main", append(slices.Clone(l[1:]), l[1:]...)))
	expectHeads(t, d, "main", l[1:]...)
	top := commit(t, d, "main", "top")
	done(t, "Move", d.Move("none", append(slices.Clone(l), top))) // more than a branch may have, but most are in the past of one
	expectHeads(t, d, "none", l[0], top)
}

// P16.4: what is deleted is there no more, and nothing else goes.
func TestDelete(t *testing.T) {
	d, all := small(t)
	done(t, "Delete", d.Delete("main"))
	for _, name := range append(noNames(), "main", "x") {
		refuses(t, d, "Delete", api.ErrBranch, func() api.Errno { return d.Delete(name) })
	}
	if got := d.Branches(); len(got) != 2 || got[0].Name != "left" || got[1].Name != "right" {
		t.Errorf("left are\n%s", toldBranches(got))
	}
	got, e := d.Read("main")
	expectNoDoc(t, "Read(main)", got, e, api.ErrBranch)
	if _, e := d.Checkout(upon(all["d"])); e != api.OK || d.Graph().Len() != 5 {
		t.Error("a change went with its branch")
	}
	done(t, "Create", d.Create("main", "left"))
	expectHeads(t, d, "main", all["b"])
	done(t, "Delete", d.Delete("left"))
	done(t, "Delete", d.Delete("right"))
	done(t, "Delete", d.Delete("main"))
	if len(d.Branches()) != 0 {
		t.Error("there are branches")
	}
	refuses(t, d, "Create from nothing", api.ErrBranch, func() api.Errno { return d.Create("main", "main") })
}

// P16.4, P16.6: behind Merge a branch says what both together say, and the other one what it said.
func TestMerge(t *testing.T) {
	d, all := small(t)
	done(t, "Create", d.Create("early", "left"))
	done(t, "Move", d.Move("early", upon(all["a"])))
	for _, x := range []struct {
		into, from string
		want       []string
	}{
		{"left", "early", []string{"b"}},
		{"early", "left", []string{"b"}},
		{"early", "early", []string{"b"}},
		{"early", "right", []string{"b", "e"}},
		{"early", "right", []string{"b", "e"}},
		{"early", "main", []string{"d", "e"}},
		{"right", "left", []string{"b", "e"}},
		{"main", "early", []string{"d", "e"}},
		{"left", "main", []string{"d", "e"}},
	} {
		both := slices.Concat(headsOf(t, d, x.into), headsOf(t, d, x.from))
		was, others := headsOf(t, d, x.from), d.Branches()
		want, e := view.At(d.Graph(), both)
		done(t, "At", e)
		done(t, "Merge", d.Merge(x.into, x.from))
		var heads []api.Hash
		for _, name := range x.want {
			heads = append(heads, all[name])
		}
		expectHeads(t, d, x.into, heads...)
		got, e := d.Read(x.into)
		expectDoc(t, "Read", got, e, want)
		if x.from != x.into {
			expectHeads(t, d, x.from, was...)
		}
		for _, b := range others {
			if b.Name != x.into {
				expectHeads(t, d, b.Name, b.Heads...)
			}
		}
	}
	if n := d.Graph().Len(); n != 5 {
		t.Errorf("behind merges %d changes are there", n)
	}
}

// P16.4: each error of Merge.
func TestMergeErrors(t *testing.T) {
	d, l := roots(t, api.MaxDeps+1)
	done(t, "Create", d.Create("one", "main"))
	done(t, "Move", d.Move("main", l[:api.MaxDeps]))
	for _, name := range append(noNames(), "x") {
		refuses(t, d, "from nothing", api.ErrBranch, func() api.Errno { return d.Merge("main", name) })
		refuses(t, d, "into nothing", api.ErrBranch, func() api.Errno { return d.Merge(name, "main") })
		refuses(t, d, "neither is there", api.ErrBranch, func() api.Errno { return d.Merge(name, name) })
	}
	refuses(t, d, "too many", api.ErrDeps, func() api.Errno { return d.Merge("main", "one") })
	refuses(t, d, "too many", api.ErrDeps, func() api.Errno { return d.Merge("one", "main") })
	done(t, "Merge", d.Merge("none", "main"))
	expectHeads(t, d, "none", l[:api.MaxDeps]...)
	done(t, "Move", d.Move("one", l[1:2]))
	done(t, "Merge", d.Merge("one", "main")) // 17 with one that stands in both
	expectHeads(t, d, "one", l[:api.MaxDeps]...)
	done(t, "Move", d.Move("one", l[api.MaxDeps:]))
	commit(t, d, "main", "top")
	done(t, "Merge", d.Merge("one", "main"))
}

// P16.4: a branch that tracks has all heads that are there, and moves no further by itself.
func TestTrack(t *testing.T) {
	d, all := small(t)
	for _, name := range append(noNames(), "x") {
		refuses(t, d, "Track", api.ErrBranch, func() api.Errno { return d.Track(name) })
	}
	done(t, "Track", d.Track("left"))
	expectHeads(t, d, "left", all["d"], all["e"])
	expectHeads(t, d, "right", all["e"])
	f := commit(t, d, "main", "ann")
	expectHeads(t, d, "left", all["d"], all["e"])
	done(t, "Track", d.Track("left"))
	expectHeads(t, d, "left", f, all["e"])
	_, e := d.Receive(lay(t, api.Change{Author: "z", Seq: 1, Start: 9, Deps: []api.Hash{{1}}}))
	done(t, "Receive", e)
	done(t, "Track", d.Track("left"))
	expectHeads(t, d, "left", f, all["e"])
	empty := document.New()
	done(t, "Track", empty.Track("main"))
	expectHeads(t, empty, "main")
}

// P16.4: more heads than a branch may have.
func TestTrackOfMany(t *testing.T) {
	d, l := roots(t, api.MaxDeps)
	done(t, "Track", d.Track("none"))
	expectHeads(t, d, "none", l...)
	done(t, "Move", d.Move("main", nil))
	commit(t, d, "main", "more")
	for _, name := range []string{"none", "main"} {
		refuses(t, d, "Track", api.ErrDeps, func() api.Errno { return d.Track(name) })
	}
	refuses(t, d, "Track", api.ErrBranch, func() api.Errno { return d.Track("x") })
}

// P16.4: branches are told by the names.
func TestBranches(t *testing.T) {
	d := document.New()
	for _, name := range []string{"z", "b", "a.b", "a-b", "a", "Z", "0"} {
		done(t, "Create", d.Create(name, "main"))
	}
	h := commit(t, d, "b", "ann")
	want := []api.Branch{{Name: "0"}, {Name: "Z"}, {Name: "a"}, {Name: "a-b"}, {Name: "a.b"}, {Name: "b", Heads: upon(h)}, {Name: "main"}, {Name: "z"}}
	if got := d.Branches(); toldBranches(got) != toldBranches(want) {
		t.Errorf("Branches\n%s\nwant\n%s", toldBranches(got), toldBranches(want))
	}
}
