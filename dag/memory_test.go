package dag_test

import (
	"slices"
	"testing"

	"stemma/api"
	"stemma/dag"
)

// spoil writes to a list and its spare room.
func spoil[T any](l []T, with T) {
	l = l[:cap(l)]
	for i := range l {
		l[i] = with
	}
}

// Rule 3: what is handed to Add is not changed and not kept.
func TestAddKeepsNoArgument(t *testing.T) {
	a := write(t, "a", 1, 2)
	b := write(t, "b", 1, 2, a)
	g := dag.New()
	for _, m := range []made{b, a} { // b waits at first
		handed := append(slices.Clone(m.b), 0xaa, 0xbb)[:len(m.b)]
		if _, e := g.Add(handed); e != api.OK {
			t.Fatal(int(e))
		}
		if whole := handed[:len(m.b)+2]; string(whole) != string(m.b)+"\xaa\xbb" {
			t.Errorf("Add changed its argument to %x", whole)
		}
		spoil(handed, 0xee)
	}
	expectBytes(t, g, a, true)
	expectBytes(t, g, b, true)
	expectList(t, "Heads", g.Heads(), deps(b))
	past, e := g.Past(deps(b))
	expectAnswer(t, "Past", past, e, deps(a, b))
}

// Rules 3 and 4: answers are new memory, so that writing to them changes nothing.
func TestAnswersAreNewMemory(t *testing.T) {
	p := plant(t)
	fork := p.g.Fork()
	want := told(p.g)
	heads := deps(p.d, p.e, p.a)
	for range 2 {
		for _, h := range deps(p.a, p.b, p.c, p.d, p.e, p.f) {
			b, _ := p.g.Bytes(h)
			spoil(b, 0xee)
		}
		for _, l := range [][]api.Hash{p.g.Heads(), p.g.Waiting(), p.g.Missing()} {
			spoil(l, api.Hash{0xee})
		}
		for _, ask := range lists() {
			for _, l := range [][]api.Hash{heads, deps(p.d), nil} {
				got, _ := ask(p.g, l)
				spoil(got, api.Hash{0xee})
			}
		}
	}
	if told(p.g) != want || told(fork) != want {
		t.Error("writing to answers changed the graph, or its fork")
	}
	expectList(t, "the heads that were handed in", heads, deps(p.d, p.e, p.a))
}

// Rule 3: an answer that has the same hashes as the argument is another list.
func TestAnswersShareNothingWithArguments(t *testing.T) {
	p := plant(t)
	for what, ask := range lists() {
		for _, m := range []made{p.a, p.f} { // each is its own past, order and reduction
			handed := deps(m)
			got, _ := ask(p.g, handed)
			expectList(t, what, got, deps(m))
			spoil(got, api.Hash{0xee})
			expectList(t, what+"'s argument behind its answer is spoilt", handed, deps(m))
			got, _ = ask(p.g, handed)
			spoil(handed, api.Hash{0xdd})
			expectList(t, what+" behind its argument is spoilt", got, deps(m))
		}
	}
}

// Rule 3: hashes that are handed in stay as they stand, with what is behind them.
func TestListsAreNotChanged(t *testing.T) {
	p := plant(t)
	whole := []api.Hash{p.e.h, p.a.h, p.d.h, p.a.h, {0xaa}, {0xbb}}
	for what, ask := range lists() {
		handed := slices.Clone(whole)
		if _, e := ask(p.g, handed[:4]); e != api.OK {
			t.Error(what, int(e))
		}
		expectList(t, what+"'s argument", handed, whole)
	}
	handed := slices.Clone(whole)
	expectNext(t, p.g, "ann", handed[:4], 4, 10)
	expectList(t, "Next's argument", handed, whole)
}
