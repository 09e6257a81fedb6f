package view_test

import (
	"cmp"
	"slices"
	"strconv"
	"testing"

	"stemma/api"
	"stemma/change"
	"stemma/dag"
	"stemma/view"
)

// id is a number and a change's hash.
type id struct {
	number int
	by     api.Hash
}

// compare tells which of two ids is the lesser one.
func compare(a, b id) int {
	return cmp.Or(cmp.Compare(a.number, b.number), cmp.Compare(string(a.by[:]), string(b.by[:])))
}

// deed is an operation, its id, and which one of its change it is.
type deed struct {
	api.Op
	id id
	nr int
}

// letter is a character of a text, the id of the one that it stands behind, and who put and took it.
type letter struct {
	id, after id
	char      byte
	put       deed
	took      []deed
}

// plain is the changes of a graph told as the chapter tells them, without any thought of speed.
type plain struct {
	pasts   map[api.Hash][]api.Hash
	deeds   []deed // the least id first: each stands behind all that are ahead of it
	letters map[string][]*letter
}

// plainOf tells the changes of a graph.
func plainOf(g *dag.Graph) *plain {
	p := &plain{pasts: map[api.Hash][]api.Hash{}, letters: map[string][]*letter{}}
	all, _ := g.Past(g.Heads())
	for _, h := range all {
		p.pasts[h], _ = g.Past([]api.Hash{h})
		b, _ := g.Bytes(h)
		c, _ := change.Get(b)
		number := c.Start
		for i, o := range c.Ops {
			p.deeds = append(p.deeds, deed{o, id{number, h}, i})
			number++
			if o.Kind == api.OpIns {
				number += len(o.Text) - 1
			}
		}
	}
	slices.SortFunc(p.deeds, func(a, b deed) int { return compare(a.id, b.id) })
	for _, d := range p.deeds {
		switch d.Kind {
		case api.OpIns:
			p.insert(d)
		case api.OpCut:
			p.cut(d)
		}
	}
	return p
}

// ahead tells whether a is ahead of b.
func (p *plain) ahead(a, b deed) bool {
	if a.id.by == b.id.by {
		return a.nr < b.nr
	}
	return slices.Contains(p.pasts[b.id.by], a.id.by)
}

// row tells letters in the row's order: those behind the beginning, or behind one, the greatest id first, behind each those below it.
func row(l []*letter, after id) []*letter {
	var beside, all []*letter
	for _, x := range l {
		if x.after == after {
			beside = append(beside, x)
		}
	}
	slices.SortFunc(beside, func(a, b *letter) int { return compare(b.id, a.id) })
	for _, x := range beside {
		all = append(append(all, x), row(l, x.id)...)
	}
	return all
}

// sees tells what an operation sees of its text.
func (p *plain) sees(d deed) []*letter {
	var seen []*letter
	for _, x := range row(p.letters[d.Name], id{}) {
		taken := slices.ContainsFunc(x.took, func(c deed) bool { return p.ahead(c, d) })
		if p.ahead(x.put, d) && !taken {
			seen = append(seen, x)
		}
	}
	return seen
}

// insert puts the letters of an OpIns.
func (p *plain) insert(d deed) {
	after := id{}
	if seen := p.sees(d); d.Pos > 0 && len(seen) >= d.Pos {
		after = seen[d.Pos-1].id
	} else if d.Pos > 0 && len(seen) > 0 {
		after = seen[len(seen)-1].id
	}
	for k := range len(d.Text) {
		own := id{d.id.number + k, d.id.by}
		p.letters[d.Name] = append(p.letters[d.Name], &letter{id: own, after: after, char: d.Text[k], put: d})
		after = own
	}
}

// cut takes the letters that an OpCut takes.
func (p *plain) cut(d deed) {
	for i, x := range p.sees(d) {
		if d.Pos <= i && i < d.Pos+d.By {
			x.took = append(x.took, d)
		}
	}
}

// set tells the set of some heads.
func (p *plain) set(heads []api.Hash) []api.Hash {
	var set []api.Hash
	for _, h := range heads {
		set = append(set, p.pasts[h]...)
	}
	return set
}

// names tells the names of the set's operations of some kinds, rising.
func (p *plain) names(set []api.Hash, kinds ...int) []string {
	var names []string
	for _, d := range p.deeds {
		if slices.Contains(set, d.id.by) && slices.Contains(kinds, d.Kind) {
			names = append(names, d.Name)
		}
	}
	slices.Sort(names)
	return slices.Compact(names)
}

// entries is Entries.
func (p *plain) entries(heads []api.Hash) []view.Held {
	set := p.set(heads)
	var held []view.Held
	for _, name := range p.names(set, api.OpPut) {
		k := view.Held{Key: name}
		for _, d := range p.deeds {
			over := slices.ContainsFunc(p.deeds, func(o deed) bool {
				return o.Name == name && (o.Kind == api.OpPut || o.Kind == api.OpDel) && slices.Contains(set, o.id.by) && p.ahead(d, o)
			})
			if d.Name == name && d.Kind == api.OpPut && slices.Contains(set, d.id.by) && !over {
				k.Values = append(k.Values, d.Text)
				k.By = append(k.By, d.id.by)
			}
		}
		if len(k.Values) > 0 {
			held = append(held, k)
		}
	}
	return held
}

// seen tells whether a letter is seen in a set.
func (x *letter) seen(set []api.Hash) bool {
	taken := slices.ContainsFunc(x.took, func(c deed) bool { return slices.Contains(set, c.id.by) })
	return slices.Contains(set, x.id.by) && !taken
}

// at is At.
func (p *plain) at(heads []api.Hash) api.Doc {
	set, d := p.set(heads), api.Doc{}
	for _, k := range p.entries(heads) {
		d.Entries = append(d.Entries, api.Entry{Key: k.Key, Values: k.Values})
	}
	for _, name := range p.names(set, api.OpAdd) {
		c := api.Count{Key: name}
		for _, o := range p.deeds {
			if o.Kind == api.OpAdd && o.Name == name && slices.Contains(set, o.id.by) {
				c.N += o.By
			}
		}
		d.Counts = append(d.Counts, c)
	}
	for _, name := range p.names(set, api.OpIns) {
		x := api.Text{Name: name}
		for _, c := range row(p.letters[name], id{}) {
			if c.seen(set) {
				x.Chars += string([]byte{c.char})
			}
		}
		if x.Chars != "" {
			d.Texts = append(d.Texts, x)
		}
	}
	return d
}

// both is Both.
func (p *plain) both(a, b []api.Hash) []view.Row {
	inA, inB := p.set(a), p.set(b)
	set := slices.Concat(inA, inB)
	var rows []view.Row
	for _, name := range p.names(set, api.OpIns) {
		r := view.Row{Name: name}
		for _, c := range row(p.letters[name], id{}) {
			if slices.Contains(set, c.id.by) {
				r.Chars = append(r.Chars, view.Char{Char: c.char, By: c.id.by, A: c.seen(inA), B: c.seen(inB)})
			}
		}
		rows = append(rows, r)
	}
	return rows
}

// list is a row of numbers that looks like one without a rule, and is the same at each run.
type list uint64

// below tells the row's next number, from 0 to n - 1.
func (l *list) below(n int) int {
	*l = *l*6364136223846793005 + 1442695040888963407
	return int(uint64(*l)>>33) % n
}

// op tells an operation; there are few names, so that many are done to one thing.
func (l *list) op() api.Op {
	name := []string{"a", "b", "a"}[l.below(3)]
	pos := l.below(9)
	if l.below(15) == 0 {
		pos = api.MaxNumber
	}
	switch l.below(9) {
	case 0, 1:
		return put(name, strconv.Itoa(l.below(1000)))
	case 2:
		return del(name)
	case 3:
		return add(name, l.below(7)-3)
	case 4, 5:
		return cut(name, pos, 1+l.below(4))
	}
	return ins(name, pos, "abcdefghijklmnopqrstuvwxyz"[l.below(20):][:1+l.below(4)])
}

// ops tells some operations, or none.
func (l *list) ops(most int) []api.Op {
	var ops []api.Op
	for range l.below(most + 1) {
		ops = append(ops, l.op())
	}
	return ops
}

// some tells up to so many of the hashes, one of the last of them mostly.
func (l *list) some(from []api.Hash, most int) []api.Hash {
	var some []api.Hash
	for range l.below(most + 1) {
		if len(from) > 0 {
			reach := min(len(from), []int{3, 6, 1000}[l.below(3)])
			some = append(some, from[len(from)-1-l.below(reach)])
		}
	}
	return some
}

// graph tells a graph of so many changes by few authors, and their hashes as they came.
func (l *list) graph(t *testing.T, many, most int) (*dag.Graph, []api.Hash) {
	t.Helper()
	g := dag.New()
	var all []api.Hash
	for i := range many {
		deps, e := g.Reduce(l.some(all, 3))
		if e != api.OK {
			t.Fatalf("Reduce: %d", int(e))
		}
		author := []string{"ann", "bob", "cid"}[l.below(3)]
		all = append(all, noted(t, g, strconv.Itoa(i), author, deps, l.ops(most)...))
	}
	return g, all
}
