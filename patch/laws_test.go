package patch_test

import (
	"slices"
	"strconv"
	"strings"
	"testing"

	"stemma/api"
	"stemma/dag"
	"stemma/patch"
	"stemma/view"
)

// graphs tells how many graphs without a rule are gone through.
func graphs() int {
	if testing.Short() {
		return 40
	}
	return 300
}

// P13.1: graphs without a rule, between their changes, held against the chapter told plainly.
func TestBetweenHeldAgainstPlain(t *testing.T) {
	met := map[string]int{}
	for seed := range graphs() {
		l := list(seed + 1)
		g, all := l.graph(t, 4+seed%20, 1+seed%6)
		for range 8 {
			a, b := l.some(all, 4), l.some(all, 4)
			want := plainBetween(t, g, a, b)
			expectBetween(t, g, a, b, want...)
			for _, p := range want {
				met[strconv.Itoa(p.Kind)]++
				met["gone "+strconv.FormatBool(p.Gone)]++
				met["cut "+strconv.FormatBool(p.Cut > 0)+" put "+strconv.FormatBool(p.Put != "")]++
				met["values "+strconv.Itoa(min(len(p.Values), 2))]++
			}
		}
		if t.Failed() {
			t.Fatalf("graph %d", seed)
		}
	}
	for _, what := range []string{"1", "2", "3", "gone true", "gone false", "cut true put true", "cut true put false", "cut false put true", "values 0", "values 1", "values 2"} {
		if met[what] < graphs()/4 {
			t.Errorf("%s: met %d times", what, met[what])
		}
	}
}

// P13.2: rows of patches, some of which can't be, held against the chapter told on a desk.
func TestApplyHeldAgainstDesk(t *testing.T) {
	done, refused := 0, 0
	for seed := range 400 {
		l := list(seed + 1000)
		d := desk{}
		var all []api.Patch
		for range 40 {
			p := l.patch(d.doc)
			before := api.Doc{Entries: slices.Clone(d.doc.Entries), Counts: slices.Clone(d.doc.Counts), Texts: slices.Clone(d.doc.Texts)}
			if !d.apply(p) {
				refused++
				expectNoApply(t, api.Doc{}, api.ErrForm, append(slices.Clone(all), p)...)
				d.doc = before
				continue
			}
			done++
			all = append(all, p)
			expectApply(t, api.Doc{}, all, d.saying())
		}
		half := len(all) / 2 // all at one time, or in two
		first, _ := patch.Apply(api.Doc{}, all[:half])
		expectApply(t, first, all[half:], d.saying())
		if t.Failed() {
			t.Fatalf("row %d", seed)
		}
	}
	if done < 10000 || refused < 200 {
		t.Errorf("%d done, %d refused", done, refused)
	}
}

// P13.2: what view tells may be, and what Apply tells, too.
func TestWhatIsToldMayBe(t *testing.T) {
	for seed := range graphs() / 4 {
		l := list(seed + 2000)
		g, all := l.graph(t, 12, 4)
		d := at(t, g, l.some(all, 3))
		if e := patch.Check(d); e != api.OK {
			t.Fatalf("graph %d: %s: %d", seed, saying(d), int(e))
		}
		for range 20 {
			next, e := patch.Apply(d, []api.Patch{l.patch(d)})
			if e != api.OK {
				continue
			}
			if e := patch.Check(next); e != api.OK {
				t.Fatalf("graph %d: %s: %d", seed, saying(next), int(e))
			}
			d = next
		}
	}
}

// P13.4: there are none between a and a, whichever heads tell the set.
func TestNoneBetweenTheSame(t *testing.T) {
	for seed := range graphs() / 4 {
		l := list(seed + 3000)
		g, all := l.graph(t, 20, 5)
		for range 6 {
			a := l.some(all, 4)
			reduced, _ := g.Reduce(a)
			whole, _ := g.Past(a)
			for _, other := range [][]api.Hash{a, reduced, whole, slices.Concat(whole, a)} {
				expectBetween(t, g, a, other)
				expectBetween(t, g, other, a)
			}
		}
	}
}

// P13.4: one step behind the other leads where one step leads, and back again.
func TestWays(t *testing.T) {
	for seed := range graphs() / 4 {
		l := list(seed + 4000)
		g, all := l.graph(t, 20, 5)
		a, b, c := l.some(all, 3), l.some(all, 3), l.some(all, 3)
		there, on, back := between(t, g, a, b), between(t, g, b, c), between(t, g, c, a)
		expectApply(t, at(t, g, a), slices.Concat(there, on), saying(at(t, g, c)))
		expectApply(t, at(t, g, a), slices.Concat(there, on, back), saying(at(t, g, a)))
		expectApply(t, at(t, g, a), between(t, g, a, c), saying(at(t, g, c)))
		if t.Failed() {
			t.Fatalf("graph %d", seed)
		}
	}
}

// P13.4: a text's patches leave alone what both say: as many go, and come, as one alone says, and between any two stretches something stands.
func TestWhatBothSayStays(t *testing.T) {
	for seed := range graphs() {
		l := list(seed + 5000)
		g, all := l.graph(t, 20, 5)
		a, b := l.some(all, 3), l.some(all, 3)
		rows, _ := view.Both(g, a, b)
		goes, comes := map[string]int{}, map[string]int{}
		for _, r := range rows {
			for _, c := range r.Chars {
				if c.A && !c.B {
					goes[r.Name]++
				}
				if c.B && !c.A {
					comes[r.Name]++
				}
			}
		}
		last := api.Patch{}
		for _, p := range between(t, g, a, b) {
			if p.Kind != api.PatchText {
				continue
			}
			if p.Name == last.Name && p.At <= last.At+len(last.Put) {
				t.Errorf("graph %d: nothing stands between two stretches", seed)
			}
			if len(p.From) != len(p.Put) || p.Cut == 0 && p.Put == "" {
				t.Errorf("graph %d: %s", seed, telling([]api.Patch{p}))
			}
			goes[p.Name] -= p.Cut
			comes[p.Name] -= len(p.Put)
			last = p
		}
		for _, name := range fewNames() {
			if goes[name] != 0 || comes[name] != 0 {
				t.Errorf("graph %d: %s: %d too few go, %d too few come", seed, name, goes[name], comes[name])
			}
		}
	}
}

// P13.1, P13.4: what is between hangs on the two sets alone, not on what else the graph has, nor on the order in which it came.
func TestSetsAlone(t *testing.T) {
	for seed := range graphs() / 4 {
		l := list(seed + 6000)
		g, all := l.graph(t, 20, 5)
		a, b := l.some(all, 3), l.some(all, 3)
		want := telling(between(t, g, a, b))
		set, _ := g.Past(slices.Concat(a, b))
		other := dag.New()
		for i := range set { // from the greatest hash on, so that some wait
			bytes, _ := g.Bytes(set[len(set)-1-i])
			other.Add(bytes)
		}
		write(t, g, "dan", upon(all[0]), put("a", "late"), ins("a", 0, "late"), cut("B", 0, 9), add("B", 9))
		if telling(between(t, other, a, b)) != want || telling(between(t, g, a, b)) != want {
			t.Fatalf("graph %d", seed)
		}
	}
}

// P13.3: patches are the same just where all that is told of them is.
func TestSameOfWhatIsTold(t *testing.T) {
	alike, unlike := 0, 0
	for seed := range 40 {
		l := list(seed + 7000)
		g, all := l.graph(t, 8, 2)
		for range 20 {
			one, two := between(t, g, l.some(all, 2), l.some(all, 2)), between(t, g, l.some(all, 2), l.some(all, 2))
			same := telling(one) == telling(two)
			if patch.Same(one, two) != same || patch.Same(two, one) != same {
				t.Fatalf("graph %d:%s\nand%s\n%t", seed, telling(one), telling(two), !same)
			}
			if same {
				alike++
			} else {
				unlike++
			}
		}
	}
	if alike < 50 || unlike < 50 {
		t.Errorf("%d alike, %d unlike", alike, unlike)
	}
}

// P13.4: two who write one text in turn: each step is one stretch, as far as one was written.
func TestOneStepOneStretch(t *testing.T) {
	l := list(8000)
	g, said := dag.New(), ""
	var heads []api.Hash
	for i := range 60 {
		pos := l.below(len(said) + 1)
		word := strings.ToUpper(l.chars())
		next := write(t, g, []string{"ann", "bob"}[i%2], heads, ins("t", pos, word))
		expectBetween(t, g, heads, upon(next), text("t", pos, 0, word, slices.Repeat(upon(next), len(word))...))
		expectBetween(t, g, upon(next), heads, text("t", pos, len(word), ""))
		said, heads = said[:pos]+word+said[pos:], upon(next)
	}
	expectApply(t, api.Doc{}, between(t, g, nil, heads), `t`+strconv.Quote(said))
}
