package view_test

import (
	"slices"
	"testing"

	"stemma/api"
	"stemma/dag"
	"stemma/view"
)

// spoil writes to a list and its spare room.
func spoil[T any](l []T, with T) {
	l = l[:cap(l)]
	for i := range l {
		l[i] = with
	}
}

// plant tells a graph with several keys, counts and texts, and its heads.
func plant(t *testing.T) (*dag.Graph, []api.Hash) {
	t.Helper()
	g := dag.New()
	root := write(t, g, "root", nil, put("k", "r"), put("l", "s"), add("m", 1), ins("t", 0, "abc"), ins("u", 0, "de"))
	a := write(t, g, "ann", upon(root), put("k", "a"), put("j", "a"), add("n", 2), ins("t", 1, "X"), cut("u", 0, 1))
	b := write(t, g, "bob", upon(root), put("k", "b"), put("j", "b"), add("n", 3), ins("t", 2, "Y"), cut("t", 0, 1))
	return g, upon(a, b)
}

// Rule 3: heads that are handed in are not changed, nor is what stands in their spare room.
func TestArgumentsStay(t *testing.T) {
	g, heads := plant(t)
	for _, order := range [][]api.Hash{heads, {heads[1], heads[0]}, {heads[1], heads[1], heads[0]}} {
		roomy := append(slices.Clone(order), api.Hash{0xaa}, api.Hash{0xbb})
		a := roomy[:len(order)]
		b := slices.Clone(order)
		want := slices.Clone(roomy)
		view.At(g, a)
		view.Entries(g, a)
		view.Both(g, a, b)
		view.Both(g, a, nil)
		view.Both(g, a[:1], a)
		if !slices.Equal(roomy, want) || !slices.Equal(b, order) {
			t.Errorf("%s has changed to %s", short(want), short(roomy))
		}
	}
}

// Rule 3: no two lists of one answer share memory, spare room with it.
func TestListsOfAnAnswerShareNothing(t *testing.T) {
	g, heads := plant(t)
	d, _ := view.At(g, heads)
	for i := range d.Entries {
		for k := range d.Entries {
			if k != i {
				spoil(d.Entries[k].Values, "spoilt")
			}
		}
		again, _ := view.At(g, heads)
		if !slices.Equal(d.Entries[i].Values, again.Entries[i].Values) {
			t.Errorf("the values of %s share memory", d.Entries[i].Key)
		}
		d = again
	}
	held, _ := view.Entries(g, heads)
	for i := range held {
		for k := range held {
			if k != i {
				spoil(held[k].Values, "spoilt")
				spoil(held[k].By, api.Hash{0xee})
			}
		}
		again, _ := view.Entries(g, heads)
		if holding(held[i:i+1]) != holding(again[i:i+1]) {
			t.Errorf("what %s holds shares memory", held[i].Key)
		}
		held = again
	}
	rows, _ := view.Both(g, heads, heads[:1])
	for i := range rows {
		for k := range rows {
			if k != i {
				spoil(rows[k].Chars, view.Char{Char: '!'})
			}
		}
		again, _ := view.Both(g, heads, heads[:1])
		if rowing(rows[i:i+1]) != rowing(again[i:i+1]) {
			t.Errorf("the characters of %s share memory", rows[i].Name)
		}
		rows = again
	}
}

// Rules 3 and 4: writing to answers changes nothing of what is told later, nor the graph, nor what was told ahead.
func TestAnswersAreNewMemory(t *testing.T) {
	g, heads := plant(t)
	first, _ := view.At(g, heads)
	want, wantFirst := told(t, g, heads, heads[1:]), saying(first)
	for range 2 {
		d, _ := view.At(g, heads)
		for _, k := range d.Entries {
			spoil(k.Values, "spoilt")
		}
		spoil(d.Entries, api.Entry{})
		spoil(d.Counts, api.Count{})
		spoil(d.Texts, api.Text{})
		held, _ := view.Entries(g, heads)
		for _, k := range held {
			spoil(k.Values, "spoilt")
			spoil(k.By, api.Hash{0xee})
		}
		spoil(held, view.Held{})
		rows, _ := view.Both(g, heads, heads[1:])
		for _, r := range rows {
			spoil(r.Chars, view.Char{Char: '!'})
		}
		spoil(rows, view.Row{})
	}
	if got := told(t, g, heads, heads[1:]); got != want {
		t.Errorf("told %s, want %s", got, want)
	}
	if saying(first) != wantFirst {
		t.Errorf("what was told is now %s, was %s", saying(first), wantFirst)
	}
}

// Rule 4: looking changes nothing of the graph, and the same is told again and again.
func TestLooksChangeNothing(t *testing.T) {
	g, heads := plant(t)
	fork := g.Fork()
	want := told(t, g, heads, nil)
	for range 20 { // maps are gone through in other orders
		if got := told(t, g, heads, nil); got != want {
			t.Fatalf("told %s, want %s", got, want)
		}
	}
	if !slices.Equal(g.Heads(), fork.Heads()) || g.Len() != fork.Len() || told(t, fork, heads, nil) != want {
		t.Error("the graph has changed")
	}
}
