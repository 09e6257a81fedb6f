package patch_test

import (
	"slices"
	"testing"

	"stemma/api"
	"stemma/dag"
	"stemma/patch"
)

// spoil writes to a list and its spare room.
func spoil[T any](l []T, with T) {
	l = l[:cap(l)]
	for i := range l {
		l[i] = with
	}
}

// spoilDoc writes to all of a document's lists.
func spoilDoc(d api.Doc) {
	for _, k := range d.Entries {
		spoil(k.Values, "spoilt")
	}
	spoil(d.Entries, api.Entry{})
	spoil(d.Counts, api.Count{})
	spoil(d.Texts, api.Text{})
}

// plant tells a graph with several keys, counts and texts, and heads to go from and to.
func plant(t *testing.T) (g *dag.Graph, a, b []api.Hash) {
	t.Helper()
	g = dag.New()
	root := write(t, g, "root", nil, put("k", "r"), put("l", "s"), put("o", "s"), add("m", 1), ins("t", 0, "abcdef"), ins("u", 0, "de"))
	one := write(t, g, "ann", upon(root), put("k", "a"), put("j", "a"), add("n", 2), ins("t", 1, "X"), cut("u", 0, 1), del("o"))
	two := write(t, g, "bob", upon(root), put("k", "b"), put("j", "b"), add("n", 3), ins("t", 5, "YZ"), cut("t", 0, 1))
	return g, upon(root), upon(one, two)
}

// Rule 3: what is handed in is not changed, nor what stands in its spare room.
func TestArgumentsStay(t *testing.T) {
	g, a, b := plant(t)
	roomy := append(slices.Clone(b), api.Hash{0xaa}, api.Hash{0xbb})
	slices.Reverse(roomy[:2])
	want := slices.Clone(roomy)
	l := between(t, g, roomy[:2], a)
	between(t, g, a, roomy[:2])
	if !slices.Equal(roomy, want) {
		t.Errorf("%s has changed to %s", short(want), short(roomy))
	}
	d := at(t, g, roomy[:2])
	d.Entries = append(d.Entries, api.Entry{Key: "spare"})[:len(d.Entries)]
	d.Entries[0].Values = append(d.Entries[0].Values, "spare")[:len(d.Entries[0].Values)]
	d.Counts = append(d.Counts, api.Count{Key: "spare"})[:len(d.Counts)]
	d.Texts = append(d.Texts, api.Text{Name: "spare"})[:len(d.Texts)]
	more := append(l, key("new", nil, "v"), key("j", nil, "v"), count("a", 1), text("t", 0, 0, "new"))[:len(l)+2]
	wasDoc, wasList := saying(d), telling(more[:cap(more)])
	patch.Check(d)
	patch.Apply(d, more)
	patch.Apply(d, append(slices.Clone(more), api.Patch{}))
	patch.Same(more, l)
	if saying(d) != wasDoc || telling(more[:cap(more)]) != wasList {
		t.Errorf("%s has changed to %s, or %s to %s", wasDoc, saying(d), wasList, telling(more[:cap(more)]))
	}
	if d.Entries[:len(d.Entries)+1][len(d.Entries)].Key != "spare" || d.Entries[0].Values[:len(d.Entries[0].Values)+1][len(d.Entries[0].Values)] != "spare" ||
		d.Counts[:len(d.Counts)+1][len(d.Counts)].Key != "spare" || d.Texts[:len(d.Texts)+1][len(d.Texts)].Name != "spare" {
		t.Error("spare room has changed")
	}
}

// Rule 3: what Between tells is new memory, and no two of its lists share any.
func TestBetweenIsNewMemory(t *testing.T) {
	g, a, b := plant(t)
	want := between(t, g, a, b)
	for i := range want {
		got := between(t, g, a, b)
		for k := range got {
			if k != i {
				spoil(got[k].Values, "spoilt")
				spoil(got[k].From, api.Hash{0xee})
			}
		}
		if !patch.Same(got[i:i+1], want[i:i+1]) {
			t.Errorf("%s has changed to %s", telling(want[i:i+1]), telling(got[i:i+1]))
		}
		spoil(got[i].Values, "spoilt")
		if !slices.Equal(got[i].From, want[i].From) {
			t.Errorf("the values of %s share memory with their changes", got[i].Name)
		}
		spoil(got, api.Patch{})
	}
	if got := between(t, g, a, b); !patch.Same(got, want) {
		t.Errorf("told %s, want %s", telling(got), telling(want))
	}
}

// Rule 3: what Apply tells shares nothing with the document, nor with the patches, nor one of its lists with another one.
func TestApplyIsNewMemory(t *testing.T) {
	shared := []string{"v", "w"}
	list := []api.Patch{key("x", nil, shared...), key("y", nil, shared...), count("x", 1), text("x", 0, 0, "ab"), text("t", 1, 1, "")}
	list[0].Values, list[1].Values = shared, shared
	d := full()
	d.Entries = append(d.Entries, api.Entry{Key: "p", Values: shared}, api.Entry{Key: "q", Values: shared})
	const want = `k="v"|"w" l="" p="v"|"w" q="v"|"w" x="v"|"w" y="v"|"w" m:0 n:-2 x:1 t"acd" u"\x00" x"ab"`
	wasDoc, wasList := saying(d), telling(list)
	got, _ := patch.Apply(d, list)
	for i := range got.Entries {
		again, _ := patch.Apply(d, list)
		for k := range again.Entries {
			if k != i {
				spoil(again.Entries[k].Values, "spoilt")
			}
		}
		if !slices.Equal(again.Entries[i].Values, got.Entries[i].Values) {
			t.Errorf("the values of %s share memory", got.Entries[i].Key)
		}
		spoilDoc(again)
	}
	same, _ := patch.Apply(d, nil)
	spoilDoc(same)
	if saying(d) != wasDoc || telling(list) != wasList || saying(got) != want {
		t.Errorf("%s, %s, %s", saying(d), telling(list), saying(got))
	}
	spoilDoc(d)
	spoil(shared, "spoilt")
	spoil(list, api.Patch{})
	if saying(got) != want {
		t.Errorf("what was told is now %s, was %s", saying(got), want)
	}
}

// Rule 4: the same is told again and again, and the graph is as it was.
func TestLooksChangeNothing(t *testing.T) {
	g, a, b := plant(t)
	fork := g.Fork()
	want := telling(between(t, g, a, b))
	wantDoc := saying(at(t, g, b))
	for range 20 { // maps are gone through in other orders
		if got := between(t, g, a, b); telling(got) != want {
			t.Fatalf("told %s, want %s", telling(got), want)
		}
		expectApply(t, at(t, g, a), between(t, g, a, b), wantDoc)
	}
	if !slices.Equal(g.Heads(), fork.Heads()) || g.Len() != fork.Len() || telling(between(t, fork, a, b)) != want {
		t.Error("the graph has changed")
	}
}
