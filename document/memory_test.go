package document_test

import (
	"slices"
	"testing"

	"stemma/api"
	"stemma/document"
)

// spoil writes to a list and its spare room.
func spoil[T any](l []T, with T) {
	l = l[:cap(l)]
	for i := range l {
		l[i] = with
	}
}

// spoilDoc writes to a document that was told, to its lists and to all spare room.
func spoilDoc(d api.Doc) {
	for _, k := range d.Entries {
		spoil(k.Values, "spoilt")
	}
	spoil(d.Entries, api.Entry{Key: "spoilt", Values: []string{"spoilt"}})
	spoil(d.Counts, api.Count{Key: "spoilt", N: 9})
	spoil(d.Texts, api.Text{Name: "spoilt", Chars: "spoilt"})
}

// Rule 3: a document that was told may be written to, the first time and each further time.
func TestCheckoutsAreNewMemory(t *testing.T) {
	d, all := small(t)
	fork := d.Fork()
	for name, h := range all {
		want := toldDoc(checkout(t, d.Fork(), h))
		kept := checkout(t, d, h)
		late := d.Fork()
		for range 3 {
			for _, x := range []*document.Document{d, fork, late} {
				got := checkout(t, x, h)
				if toldDoc(got) != want {
					t.Fatalf("Checkout(%s) =\n%s\nwant\n%s", name, toldDoc(got), want)
				}
				spoilDoc(got)
			}
		}
		if toldDoc(kept) != want {
			t.Errorf("what was told is now\n%s\nwant\n%s", toldDoc(kept), want)
		}
	}
	one, e := d.Read("main")
	done(t, "Read", e)
	want := toldDoc(one)
	spoilDoc(one)
	again, _ := d.Read("main")
	if toldDoc(again) != want {
		t.Errorf("Read =\n%s\nwant\n%s", toldDoc(again), want)
	}
}

// checkout tells the document at a change.
func checkout(t *testing.T, d *document.Document, h api.Hash) api.Doc {
	t.Helper()
	got, e := d.Checkout(upon(h))
	done(t, "Checkout", e)
	return got
}

// Rule 3: two lists of one answer share no memory.
func TestListsOfACheckoutShareNone(t *testing.T) {
	d := document.New()
	for _, name := range []string{"x", "y"} {
		done(t, "Create", d.Create(name, "main"))
		commit(t, d, name, name, put("a", name), put("b", name), put("c", name))
	}
	done(t, "Merge", d.Merge("x", "y"))
	want, _ := d.Read("x")
	for range 2 {
		got, e := d.Read("x")
		expectDoc(t, "Read", got, e, want)
		for i := range got.Entries {
			one := toldDoc(api.Doc{Entries: got.Entries[i+1:]})
			spoil(got.Entries[i].Values, "spoilt")
			if toldDoc(api.Doc{Entries: got.Entries[i+1:]}) != one {
				t.Error("values of one answer share memory")
			}
		}
	}
}

// Rule 3: all other answers are new memory, too.
func TestAnswersAreNewMemory(t *testing.T) {
	d, all := small(t)
	ahead := told(d)
	patches, _ := d.Patches(nil, upon(all["d"]))
	marks, _ := d.Blame(upon(all["d"]))
	wantPatches, wantMarks := toldPatches(patches), slices.Clone(marks)
	for range 2 {
		for _, b := range d.Branches() {
			spoil(b.Heads, api.Hash{0xee})
		}
		spoil(d.Branches(), api.Branch{Name: "spoilt"})
		l, _ := d.Patches(nil, upon(all["d"]))
		for _, p := range l {
			spoil(p.Values, "spoilt")
			spoil(p.From, api.Hash{0xee})
		}
		spoil(l, api.Patch{Kind: 9})
		m, _ := d.Blame(upon(all["d"]))
		spoil(m, api.Mark{Kind: 9})
		b, _ := d.Graph().Bytes(all["a"])
		spoil(b, 0xee)
	}
	if told(d) != ahead {
		t.Errorf("behind answers are spoilt:\n%s\nwant\n%s", told(d), ahead)
	}
	patches, _ = d.Patches(nil, upon(all["d"]))
	marks, _ = d.Blame(upon(all["d"]))
	if toldPatches(patches) != wantPatches || !slices.Equal(marks, wantMarks) {
		t.Error("behind answers are spoilt, others are told")
	}
	bytesOf(t, d, all["a"])
	load(t, d.Branches(), allBytes(d))
}

// Rule 3: heads that are handed in are neither changed nor kept.
func TestHeadsAreNotKept(t *testing.T) {
	d, all := small(t)
	for what, call := range map[string]func(heads []api.Hash) api.Errno{
		"Move": func(heads []api.Hash) api.Errno { return d.Move("left", heads) },
		"Checkout": func(heads []api.Hash) api.Errno {
			_, e := d.Checkout(heads)
			return e
		},
		"Patches": func(heads []api.Hash) api.Errno {
			_, e := d.Patches(heads, heads)
			return e
		},
		"Blame": func(heads []api.Hash) api.Errno {
			_, e := d.Blame(heads)
			return e
		},
	} {
		for _, heads := range [][]api.Hash{{all["c"]}, {all["e"], all["d"], all["a"], all["a"]}, {all["b"], all["c"]}, upon(all["b"], all["c"])} {
			whole := append(slices.Clone(heads), api.Hash{0xaa}, api.Hash{0xbb})
			handed := slices.Clone(whole)
			done(t, what, call(handed[:len(heads)]))
			if !slices.Equal(handed, whole) {
				t.Errorf("%s changed its heads", what)
			}
			want, branches := checkoutOf(t, d, heads), toldBranches(d.Branches())
			spoil(handed, api.Hash{0xee})
			if checkoutOf(t, d, heads) != want || toldBranches(d.Branches()) != branches {
				t.Errorf("behind %s's heads are spoilt, others are told", what)
			}
		}
	}
}

// checkoutOf tells as a text what a document says at some heads.
func checkoutOf(t *testing.T, d *document.Document, heads []api.Hash) string {
	t.Helper()
	got, e := d.Checkout(heads)
	done(t, "Checkout", e)
	return toldDoc(got)
}

// Rule 3: operations and bytes that are handed in are neither changed nor kept.
func TestChangesAreNotKept(t *testing.T) {
	d := document.New()
	whole := ops(put("k", "v"), ins("t", 0, "abc"), put("spare", "room"))
	handed := slices.Clone(whole)
	h, e := d.Commit("main", "ann", "note", handed[:2])
	done(t, "Commit", e)
	if !slices.Equal(handed, whole) {
		t.Error("Commit changed its operations")
	}
	spoil(handed, put("spoilt", "spoilt"))
	expectChange(t, d, h, api.Change{Author: "ann", Seq: 1, Start: 1, Note: "note", Ops: whole[:2]})
	other := document.New()
	good := bytesOf(t, d, h)
	b := append(slices.Clone(good), 0xaa, 0xbb)
	_, e = other.Receive(b[:len(good)])
	done(t, "Receive", e)
	if !slices.Equal(b, append(slices.Clone(good), 0xaa, 0xbb)) {
		t.Error("Receive changed its bytes")
	}
	spoil(b, 0xee)
	if !slices.Equal(bytesOf(t, other, h), good) {
		t.Error("Receive kept its bytes")
	}
}

// Rule 3: what is handed to Load is neither changed nor kept.
func TestLoadKeepsNothing(t *testing.T) {
	d, _ := small(t)
	branches, changes := d.Branches(), allBytes(d)
	other := load(t, branches, changes)
	if toldBranches(branches) != toldBranches(d.Branches()) || !slices.EqualFunc(changes, allBytes(d), slices.Equal[[]byte]) {
		t.Error("Load changed what it was handed")
	}
	for _, b := range branches {
		spoil(b.Heads, api.Hash{0xee})
	}
	spoil(branches, api.Branch{Name: "spoilt"})
	for _, b := range changes {
		spoil(b, 0xee)
	}
	spoil(changes, nil)
	if told(other) != told(d) || !slices.EqualFunc(allBytes(other), allBytes(d), slices.Equal[[]byte]) {
		t.Errorf("behind what was handed to Load is spoilt:\n%s\nwant\n%s", told(other), told(d))
	}
}

// P16.6: looks change nothing, and tell the same again and again.
func TestLooksChangeNothing(t *testing.T) {
	d, all := small(t)
	ahead := told(d)
	for range 10 { // maps are gone through in other orders
		fork := d.Fork()
		for _, h := range all {
			expectLooks(t, d, upon(all["a"]), upon(h))
			if toldDoc(checkout(t, d, h)) != toldDoc(checkout(t, fork, h)) {
				t.Error("a fork says something else")
			}
		}
		for _, b := range d.Branches() {
			if _, e := d.Read(b.Name); e != api.OK {
				t.Errorf("Read(%s) = %d", b.Name, int(e))
			}
		}
		d.Checkout([]api.Hash{{}})
		d.Read("x")
		d.Graph()
		if told(d) != ahead || told(fork) != ahead {
			t.Fatal("looks changed something")
		}
	}
}
