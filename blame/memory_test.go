package blame_test

import (
	"slices"
	"testing"

	"stemma/api"
	"stemma/blame"
	"stemma/dag"
)

// spoil writes to a list and its spare room.
func spoil[T any](l []T, with T) {
	l = l[:cap(l)]
	for i := range l {
		l[i] = with
	}
}

// plant tells a graph with several authors, keys, counts and texts, and its heads.
func plant(t *testing.T) (*dag.Graph, []api.Hash) {
	t.Helper()
	g := dag.New()
	root := write(t, g, "root", nil, put("k", "r"), put("l", "s"), add("m", 1), ins("t", 0, "abc"), ins("u", 0, "de"))
	a := write(t, g, "ann", upon(root), put("k", "a"), put("j", "a"), ins("t", 1, "X"), cut("u", 0, 1))
	b := write(t, g, "bob", upon(root), put("k", "b"), put("j", "b"), ins("t", 2, "Y"), cut("t", 0, 1))
	c := write(t, g, "cid", upon(root), del("l"))
	return g, upon(a, b, c)
}

// Rule 3: heads that are handed in are not changed, nor is what stands in their spare room.
func TestArgumentsStay(t *testing.T) {
	g, heads := plant(t)
	falling := slices.Clone(heads)
	slices.Reverse(falling)
	for _, order := range [][]api.Hash{heads, falling, slices.Concat(falling, heads)} {
		roomy := append(slices.Clone(order), api.Hash{0xaa}, api.Hash{0xbb})
		want := slices.Clone(roomy)
		of(t, g, roomy[:len(order)])
		shares(t, g, roomy[:len(order)])
		if !slices.Equal(roomy, want) {
			t.Error("heads have changed")
		}
	}
}

// Rules 3 and 4: writing to answers and to heads changes nothing of what is told later, nor of what was told ahead.
func TestAnswersAreNewMemory(t *testing.T) {
	g, heads := plant(t)
	asked := slices.Clone(heads)
	marks, authors := of(t, g, asked), shares(t, g, asked)
	wantMarks, wantShares := telling(marks), sharing(authors)
	spoil(asked, api.Hash{0xee})
	for range 2 {
		spoil(of(t, g, heads), api.Mark{})
		spoil(shares(t, g, heads), blame.Share{})
	}
	if telling(marks) != wantMarks || sharing(authors) != wantShares {
		t.Errorf("what was told is now %s; %s", telling(marks), sharing(authors))
	}
	if got := of(t, g, heads); telling(got) != wantMarks {
		t.Errorf("told %s, want %s", telling(got), wantMarks)
	}
	expectShares(t, g, heads, wantShares)
}

// Rule 4: the same is told again and again, and the graph is as it was.
func TestLooksChangeNothing(t *testing.T) {
	g, heads := plant(t)
	fork := g.Fork()
	want, wantShares := of(t, g, heads), sharing(shares(t, g, heads))
	for range 20 { // maps are gone through in other orders
		expectOf(t, g, heads, want)
		expectShares(t, g, heads, wantShares)
	}
	if !slices.Equal(g.Heads(), fork.Heads()) || g.Len() != fork.Len() {
		t.Error("the graph has changed")
	}
	expectOf(t, fork, heads, want)
	expectShares(t, fork, heads, wantShares)
}
