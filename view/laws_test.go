package view_test

import (
	"slices"
	"strconv"
	"strings"
	"testing"

	"stemma/api"
	"stemma/dag"
	"stemma/hashes"
	"stemma/view"
)

// expectPlain asks for what the chapter told plainly says, at a, and of a and b.
func expectPlain(t *testing.T, g *dag.Graph, p *plain, a, b []api.Hash) {
	t.Helper()
	expectAt(t, g, a, saying(p.at(a)))
	expectHeld(t, g, a, p.entries(a)...)
	expectRows(t, g, a, b, p.both(a, b)...)
}

// P12.1, P12.2: graphs without a rule, at all their heads and at some of them, held against the chapter told plainly.
func TestHeldAgainstPlain(t *testing.T) {
	graphs := 300
	if testing.Short() {
		graphs = 40
	}
	for seed := range graphs {
		l := list(seed + 1)
		g, all := l.graph(t, 4+seed%20, 1+seed%6)
		p := plainOf(g)
		expectPlain(t, g, p, g.Heads(), nil)
		expectPlain(t, g, p, nil, g.Heads())
		for range 6 {
			expectPlain(t, g, p, l.some(all, 4), l.some(all, 4))
		}
		if t.Failed() {
			t.Fatalf("graph %d", seed)
		}
	}
}

// P12.1, P12.2: wide graphs and long ones, at each change.
func TestShapesHeldAgainstPlain(t *testing.T) {
	shapes := map[string]func(i int) []int{ // upon which ones the i-th is made
		"a line":         func(i int) []int { return []int{i - 1} },
		"all beside":     func(i int) []int { return nil },
		"upon the first": func(i int) []int { return []int{0} },
		"two lines":      func(i int) []int { return []int{i - 2} },
		"three lines":    func(i int) []int { return []int{i - 3} },
		"rounds":         func(i int) []int { return [][]int{{i - 1, i - 2}, {i - 1}, {i - 2}}[i%3] },
		"a ladder":       func(i int) []int { return []int{i - 1, i - 3} },
		"crossed":        func(i int) []int { return [][]int{{i - 1, i - 2}, {i - 2, i - 3}}[i%2] },
	}
	for what, deps := range shapes {
		for seed := range 5 {
			l := list(seed + 1000)
			g, all := dag.New(), []api.Hash{}
			for i := range 24 {
				var on []api.Hash
				for _, k := range deps(i) {
					if 0 <= k && k < i {
						on = append(on, all[k])
					}
				}
				on, _ = g.Reduce(on)
				all = append(all, noted(t, g, strconv.Itoa(i), "author"+strconv.Itoa(i), on, l.ops(5)...))
			}
			p := plainOf(g)
			for i := range all {
				expectPlain(t, g, p, all[i:i+1], all[i/2:i/2+1])
			}
			expectPlain(t, g, p, g.Heads(), all[:1])
			if t.Failed() {
				t.Fatalf("%s, %d", what, seed)
			}
		}
	}
}

// told tells all that is said at a, and of a and b.
func told(t *testing.T, g *dag.Graph, a, b []api.Hash) string {
	t.Helper()
	held, e := view.Entries(g, a)
	if e != api.OK {
		t.Fatalf("Entries: %d", int(e))
	}
	rows, e := view.Both(g, a, b)
	if e != api.OK {
		t.Fatalf("Both: %d", int(e))
	}
	return strings.Join([]string{at(t, g, a...), holding(held), rowing(rows)}, "\n")
}

// P12.4: what is said hangs on the set alone: not on the order in which the changes came, nor on what else the graph has, nor on which heads tell the set.
func TestSetAlone(t *testing.T) {
	for seed := range 60 {
		l := list(seed + 2000)
		g, all := l.graph(t, 20, 5)
		a, b := l.some(all, 3), l.some(all, 3)
		want := told(t, g, a, b)
		set, _ := g.Past(slices.Concat(a, b))
		for range 3 {
			other := dag.New() // of the set alone, in any order
			for _, h := range l.shuffled(set) {
				bytes, _ := g.Bytes(h)
				other.Add(bytes)
			}
			if other.Len() != len(set) {
				t.Fatalf("%d are there of %d", other.Len(), len(set))
			}
			if got := told(t, other, a, b); got != want {
				t.Fatalf("graph %d: told %s, want %s", seed, got, want)
			}
		}
		reducedA, _ := g.Reduce(a)
		reducedB, _ := g.Reduce(b)
		wholeA, _ := g.Past(a)
		wholeB, _ := g.Past(b)
		for _, got := range []string{told(t, g, reducedA, reducedB), told(t, g, wholeA, wholeB), told(t, g.Fork(), l.shuffled(wholeA), slices.Concat(b, b))} {
			if got != want {
				t.Fatalf("graph %d: other heads told %s, want %s", seed, got, want)
			}
		}
		write(t, g, "dan", upon(all[0]), put("a", "late"), ins("a", 0, "late"), cut("b", 0, 9), add("b", 9))
		if got := told(t, g, a, b); got != want {
			t.Fatalf("graph %d: behind another change told %s, want %s", seed, got, want)
		}
	}
}

// shuffled tells the hashes in another order.
func (l *list) shuffled(from []api.Hash) []api.Hash {
	out := slices.Clone(from)
	for i := range out {
		k := i + l.below(len(out)-i)
		out[i], out[k] = out[k], out[i]
	}
	return out
}

// desk is what one author has, done to at once.
type desk struct {
	keys, texts map[string]string
	counts      map[string]int
}

// do does an operation.
func (d *desk) do(o api.Op) {
	text := d.texts[o.Name]
	from := min(o.Pos, len(text))
	switch o.Kind {
	case api.OpPut:
		d.keys[o.Name] = o.Text
	case api.OpDel:
		delete(d.keys, o.Name)
	case api.OpAdd:
		d.counts[o.Name] += o.By
	case api.OpIns:
		d.texts[o.Name] = text[:from] + o.Text + text[from:]
	case api.OpCut:
		d.texts[o.Name] = text[:from] + text[min(from+o.By, len(text)):]
	}
}

// saying tells what is on the desk.
func (d *desk) saying() string {
	var doc api.Doc
	for _, name := range []string{"a", "b"} {
		if v, there := d.keys[name]; there {
			doc.Entries = append(doc.Entries, api.Entry{Key: name, Values: []string{v}})
		}
		if n, there := d.counts[name]; there {
			doc.Counts = append(doc.Counts, api.Count{Key: name, N: n})
		}
		if d.texts[name] != "" {
			doc.Texts = append(doc.Texts, api.Text{Name: name, Chars: d.texts[name]})
		}
	}
	return saying(doc)
}

// P12.4: one author's operations, one after another, do what they say, in one change or in many; so do those of several who write in turn.
func TestOneAfterAnother(t *testing.T) {
	for seed := range 60 {
		l := list(seed + 3000)
		g, d, heads := dag.New(), desk{map[string]string{}, map[string]string{}, map[string]int{}}, []api.Hash(nil)
		for i := range 40 {
			ops := l.ops(1 + seed%8)
			author := "ann"
			if seed%2 == 1 {
				author += strconv.Itoa(l.below(4))
			}
			heads = upon(noted(t, g, strconv.Itoa(i), author, heads, ops...))
			for _, o := range ops {
				d.do(o)
			}
			expectAt(t, g, heads, d.saying())
		}
		if t.Failed() {
			t.Fatalf("row %d", seed)
		}
	}
}

// P12.4: behind changes that stand beside one another, one that is upon them all sees what At says, and does to it what it says.
func TestUponAll(t *testing.T) {
	for seed := range 60 {
		l := list(seed + 4000)
		g, _ := l.graph(t, 16, 4)
		for g.Len() < 24 {
			heads := l.shuffled(g.Heads())
			heads = upon(heads[:min(len(heads), api.MaxDeps)]...)
			doc, _ := view.At(g, heads)
			d := desk{map[string]string{}, map[string]string{}, map[string]int{}}
			for _, c := range doc.Counts {
				d.counts[c.Key] = c.N
			}
			for _, x := range doc.Texts {
				d.texts[x.Name] = x.Chars
			}
			ops := append(l.ops(5), put("a", "x"), put("b", "y")) // both keys, so that each has one value
			for _, o := range ops {
				d.do(o)
			}
			h := write(t, g, "eve", heads, ops...)
			expectAt(t, g, upon(h), d.saying())
		}
		if t.Failed() {
			t.Fatalf("graph %d", seed)
		}
	}
}

// P12.4: what two did beside one another is there from both: what each put, and whole; what each took is gone.
func TestBesideOneAnother(t *testing.T) {
	for seed := range 40 {
		l := list(seed + 5000)
		g := dag.New()
		base := "0123456789"
		root := write(t, g, "root", nil, ins("t", 0, base), add("n", 1), put("k", "r"))
		var heads []api.Hash
		gone, sum := map[byte]bool{}, 1
		words := []string{"ABC", "DEF", "GHI"}
		for i, word := range words {
			pos, by, n := l.below(11), 1+l.below(4), l.below(9)-4
			heads = append(heads, write(t, g, "w"+strconv.Itoa(i), upon(root), cut("t", pos, by), ins("t", l.below(12), word), add("n", n), put("k", word)))
			for k := pos; k < min(pos+by, len(base)); k++ {
				gone[base[k]] = true
			}
			sum += n
		}
		d, _ := view.At(g, heads)
		if len(d.Entries) != 1 || len(d.Entries[0].Values) != 3 || len(d.Counts) != 1 || d.Counts[0].N != sum {
			t.Fatalf("%d: %s, want three values and %d", seed, saying(d), sum)
		}
		for i, word := range words {
			if !slices.Contains(d.Entries[0].Values, word) || !strings.Contains(d.Texts[0].Chars, word) {
				t.Errorf("%d: what %d put is not whole in %s", seed, i, saying(d))
			}
		}
		left := d.Texts[0].Chars // of the base, in its order
		for _, word := range words {
			left = strings.Replace(left, word, "", 1)
		}
		want := ""
		for i := range len(base) {
			if !gone[base[i]] {
				want += base[i : i+1]
			}
		}
		if left != want {
			t.Errorf("%d: %s is left of the base, want %s", seed, left, want)
		}
	}
}

// P12.4: what is put behind a character that another one takes at the same time stays, where it was put.
func TestPutWhereAnotherCuts(t *testing.T) {
	g := dag.New()
	root := write(t, g, "root", nil, ins("t", 0, "abcdef"))
	a := write(t, g, "ann", upon(root), cut("t", 1, 4))
	b := write(t, g, "bob", upon(root), ins("t", 3, "XY"))
	c := write(t, g, "cid", upon(root), cut("t", 2, 2))
	expectAt(t, g, upon(a, b), `t"aXYf"`)
	expectAt(t, g, upon(b, c), `t"abXYef"`)
	expectAt(t, g, upon(a, c), `t"af"`)
	expectAt(t, g, upon(a, b, c), `t"aXYf"`)
	d := write(t, g, "dan", upon(a, b, c), cut("t", 1, 1), ins("t", 1, "-"))
	expectAt(t, g, upon(d), `t"a-Yf"`)
	e := write(t, g, "eve", upon(b), cut("t", 0, 8)) // sees all of it, and not what dan put
	expectAt(t, g, upon(e), ``)
	expectAt(t, g, upon(d, e), `t"-"`)
}

// P12.2: Both tells what At tells of each set, and the same of two sets whichever is named first.
func TestBothAndAt(t *testing.T) {
	for seed := range 60 {
		l := list(seed + 6000)
		g, all := l.graph(t, 20, 5)
		a, b := l.some(all, 3), l.some(all, 3)
		rows, _ := view.Both(g, a, b)
		var inA, inB api.Doc
		for i, r := range rows {
			textA, textB := api.Text{Name: r.Name}, api.Text{Name: r.Name}
			for k, c := range r.Chars {
				if c.A {
					textA.Chars += string([]byte{c.Char})
				}
				if c.B {
					textB.Chars += string([]byte{c.Char})
				}
				rows[i].Chars[k].A, rows[i].Chars[k].B = c.B, c.A
				if past, _ := g.Past(slices.Concat(a, b)); !hashes.Has(past, c.By) {
					t.Fatalf("graph %d: %s is not of the sets", seed, short([]api.Hash{c.By}))
				}
			}
			if textA.Chars != "" {
				inA.Texts = append(inA.Texts, textA)
			}
			if textB.Chars != "" {
				inB.Texts = append(inB.Texts, textB)
			}
		}
		expectRows(t, g, b, a, rows...)
		saidA, _ := view.At(g, a)
		saidB, _ := view.At(g, b)
		if !slices.Equal(saidA.Texts, inA.Texts) || !slices.Equal(saidB.Texts, inB.Texts) {
			t.Fatalf("graph %d: %s and %s, but At says %s and %s", seed, saying(inA), saying(inB), saying(saidA), saying(saidB))
		}
	}
}

// P12.3: what is said twice is the same; and documents are the same just where they say the same.
func TestSameOfWhatIsSaid(t *testing.T) {
	alike, unlike := 0, 0
	for seed := range 40 {
		l := list(seed + 7000)
		g, all := l.graph(t, 8, 2)
		for range 20 {
			a, b := l.some(all, 3), l.some(all, 3)
			saidA, _ := view.At(g, a)
			saidB, _ := view.At(g, b)
			same := saying(saidA) == saying(saidB)
			if view.Same(saidA, saidB) != same || view.Same(saidB, saidA) != same {
				t.Fatalf("graph %d: %s and %s: %t", seed, saying(saidA), saying(saidB), !same)
			}
			if same {
				alike++
			} else {
				unlike++
			}
		}
	}
	if alike < 50 || unlike < 50 {
		t.Errorf("%d alike, %d unlike", alike, unlike)
	}
}
