package branch_test

import (
	"slices"
	"testing"

	"stemma/api"
	"stemma/branch"
)

// spoil writes to a list and its spare room.
func spoil[T any](l []T, with T) {
	l = l[:cap(l)]
	for i := range l {
		l[i] = with
	}
}

// spoilBranches writes to branches, to their heads and to all spare room.
func spoilBranches(l []api.Branch) {
	for _, b := range l {
		spoil(b.Heads, api.Hash{0xee})
	}
	spoil(l, api.Branch{Name: "spoilt", Heads: short(0xee)})
}

// plant tells branches, two of which have the same heads.
func plant() []api.Branch {
	return []api.Branch{{Name: "a", Heads: short(1, 2)}, {Name: "b", Heads: short(1, 2)}, {Name: "c"}, {Name: "d", Heads: many(api.MaxDeps)}}
}

// Rule 3: heads that are handed in are not kept, nor changed, with what stands in their spare room.
func TestHeadsAreNotKept(t *testing.T) {
	for name, lay := range map[string]func(b *branch.Table, heads []api.Hash) api.Errno{
		"Create": func(b *branch.Table, heads []api.Hash) api.Errno { return b.Create("new", heads) },
		"Move":   func(b *branch.Table, heads []api.Hash) api.Errno { return b.Move("a", heads) },
		"a Create that is refused": func(b *branch.Table, heads []api.Hash) api.Errno {
			b.Create("a", heads)
			return api.OK
		},
		"a Move that is refused": func(b *branch.Table, heads []api.Hash) api.Errno {
			b.Move("none", heads)
			return api.OK
		},
	} {
		for _, heads := range [][]api.Hash{nil, short(5), short(5, 6, 7), many(api.MaxDeps)} {
			b := load(t, plant()...)
			whole := append(slices.Clone(heads), api.Hash{0xaa}, api.Hash{0xbb})
			handed := slices.Clone(whole)
			expectErrno(t, name, lay(b, handed[:len(heads)]), api.OK)
			if !slices.Equal(handed, whole) {
				t.Errorf("%s changed its heads", name)
			}
			want := told(b.List())
			spoil(handed, api.Hash{0xee})
			if got := told(b.List()); got != want {
				t.Errorf("behind %s's heads are spoilt: %s\nwant %s", name, got, want)
			}
		}
	}
}

// Rule 3: what is handed to Load and Same is not kept, nor changed.
func TestBranchesAreNotKept(t *testing.T) {
	handed := append(plant(), api.Branch{Name: "z", Heads: short(0xaa)})
	for i := range handed {
		handed[i].Heads = append(handed[i].Heads, api.Hash{0xbb})
	}
	want := told(handed)
	cut := slices.Clone(handed)
	for i := range cut {
		cut[i].Heads = cut[i].Heads[:len(cut[i].Heads)-1]
	}
	b := load(t, cut[:len(plant())]...)
	branch.Same(cut, cut[:2])
	if got := told(handed); got != want || told(cut[:len(plant())]) != told(plant()) {
		t.Errorf("what was handed to Load is now %s\nwant %s", got, want)
	}
	spoilBranches(cut)
	spoilBranches(handed)
	expectTable(t, "behind Load's branches are spoilt", b, plant()...)
}

// Rules 3 and 4: answers are new memory, and no two lists of one answer share any.
func TestAnswersAreNewMemory(t *testing.T) {
	b := load(t, plant()...)
	fork := b.Fork()
	kept := b.List()
	for range 2 {
		for _, x := range plant() {
			heads, _ := b.Heads(x.Name)
			spoil(heads, api.Hash{0xee})
		}
		spoilBranches(b.List())
		spoilBranches(fork.List())
	}
	one := b.List()
	spoil(one[0].Heads, api.Hash{0xee})
	if told(one[1:]) != told(plant()[1:]) {
		t.Errorf("heads of one answer share memory: %s", told(one))
	}
	if told(kept) != told(plant()) {
		t.Errorf("what was told is now %s", told(kept))
	}
	expectTable(t, "behind answers are spoilt", b, plant()...)
	expectTable(t, "the fork behind answers are spoilt", fork, plant()...)
}

// P15.4: looks change nothing, and tell the same again and again.
func TestLooksChangeNothing(t *testing.T) {
	b := load(t, plant()...)
	for range 20 { // maps are gone through in other orders
		expectTable(t, "again", b, plant()...)
		expectNoHeads(t, b, "none", api.ErrBranch)
		expectTable(t, "a fork", b.Fork(), plant()...)
	}
}
