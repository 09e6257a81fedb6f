package patch_test

import (
	"slices"
	"strconv"
	"testing"

	"stemma/api"
	"stemma/dag"
	"stemma/hashes"
	"stemma/view"
)

// plainBetween is Between as the chapter tells it, name by name and place by place, without any thought of speed.
func plainBetween(t *testing.T, g *dag.Graph, a, b []api.Hash) []api.Patch {
	t.Helper()
	was, is := at(t, g, a), at(t, g, b)
	held, _ := view.Entries(g, b)
	rows, _ := view.Both(g, a, b)
	var l []api.Patch
	for _, name := range fewNames() {
		if values := valuesOf(is, name); !slices.Equal(valuesOf(was, name), values) {
			p := api.Patch{Kind: api.PatchKey, Name: name, Values: values, Gone: values == nil}
			for _, k := range held {
				if k.Key == name {
					p.From = k.By
				}
			}
			l = append(l, p)
		}
	}
	for _, name := range fewNames() {
		n, wasThere := countOf(was, name)
		m, there := countOf(is, name)
		if wasThere != there || n != m {
			l = append(l, api.Patch{Kind: api.PatchCount, Name: name, By: m, Gone: !there})
		}
	}
	for _, r := range rows {
		l = append(l, plainStretches(r)...)
	}
	return l
}

// valuesOf tells a key's values, nil if it is not there.
func valuesOf(d api.Doc, name string) []string {
	for _, k := range d.Entries {
		if k.Key == name {
			return k.Values
		}
	}
	return nil
}

// countOf tells a count, and whether it is there.
func countOf(d api.Doc, name string) (int, bool) {
	for _, c := range d.Counts {
		if c.Key == name {
			return c.N, true
		}
	}
	return 0, false
}

// plainStretches tells a text's patches: a stretch begins at each character of one set alone that has none right ahead of itself.
func plainStretches(r view.Row) []api.Patch {
	var l []api.Patch
	chars := slices.DeleteFunc(slices.Clone(r.Chars), func(c view.Char) bool { return !c.A && !c.B })
	for i, c := range chars {
		if c.A == c.B || i > 0 && chars[i-1].A != chars[i-1].B {
			continue
		}
		p := api.Patch{Kind: api.PatchText, Name: r.Name}
		for _, ahead := range chars[:i] {
			if ahead.B {
				p.At++
			}
		}
		for k := i; k < len(chars) && chars[k].A != chars[k].B; k++ {
			if chars[k].A {
				p.Cut++
			} else {
				p.Put += string([]byte{chars[k].Char})
				p.From = append(p.From, chars[k].By)
			}
		}
		l = append(l, p)
	}
	return l
}

// desk is a document that patches are done to, as the chapter tells it, on lists that are searched.
type desk struct{ doc api.Doc }

// apply does a patch, and tells whether it can be.
func (d *desk) apply(p api.Patch) bool {
	if !hashes.Name(p.Name) {
		return false
	}
	switch p.Kind {
	case api.PatchKey:
		if p.Gone && len(p.Values) > 0 || !p.Gone && len(p.Values) == 0 {
			return false
		}
		d.doc.Entries = slices.DeleteFunc(d.doc.Entries, func(k api.Entry) bool { return k.Key == p.Name })
		if !p.Gone {
			d.doc.Entries = append(d.doc.Entries, api.Entry{Key: p.Name, Values: p.Values})
		}
	case api.PatchCount:
		if p.Gone && p.By != 0 {
			return false
		}
		d.doc.Counts = slices.DeleteFunc(d.doc.Counts, func(c api.Count) bool { return c.Key == p.Name })
		if !p.Gone {
			d.doc.Counts = append(d.doc.Counts, api.Count{Key: p.Name, N: p.By})
		}
	case api.PatchText:
		return d.applyText(p)
	default:
		return false
	}
	return true
}

// applyText does a patch of a text, and tells whether it can be.
func (d *desk) applyText(p api.Patch) bool {
	old := ""
	for _, x := range d.doc.Texts {
		if x.Name == p.Name {
			old = x.Chars
		}
	}
	if p.Gone || p.At < 0 || p.At > len(old) || p.Cut < 0 || p.At+p.Cut > len(old) {
		return false
	}
	d.doc.Texts = slices.DeleteFunc(d.doc.Texts, func(x api.Text) bool { return x.Name == p.Name })
	if next := old[:p.At] + p.Put + old[p.At+p.Cut:]; next != "" {
		d.doc.Texts = append(d.doc.Texts, api.Text{Name: p.Name, Chars: next})
	}
	return true
}

// saying tells what is on the desk, each list by the names.
func (d *desk) saying() string {
	var doc api.Doc
	for _, name := range fewNames() {
		for _, k := range d.doc.Entries {
			if k.Key == name {
				doc.Entries = append(doc.Entries, k)
			}
		}
		for _, c := range d.doc.Counts {
			if c.Key == name {
				doc.Counts = append(doc.Counts, c)
			}
		}
		for _, x := range d.doc.Texts {
			if x.Name == name {
				doc.Texts = append(doc.Texts, x)
			}
		}
	}
	return saying(doc)
}

// list is a row of numbers that looks like one without a rule, and is the same at each run.
type list uint64

// below tells the row's next number, from 0 to n - 1.
func (l *list) below(n int) int {
	*l = *l*6364136223846793005 + 1442695040888963407
	return int(uint64(*l)>>33) % n
}

// fewNames tells all names that rows of operations and of patches have, rising.
func fewNames() []string { return []string{"B", "a", "a.b"} }

// name tells one of the names; they are few, so that much is done to one thing.
func (l *list) name() string { return fewNames()[l.below(3)] }

// chars tells some characters.
func (l *list) chars() string { return "abcdefghijklmnopqrstuvwxyz"[l.below(20):][:1+l.below(4)] }

// op tells an operation; there are few values, so that some are put twice.
func (l *list) op() api.Op {
	name, pos := l.name(), l.below(9)
	if l.below(15) == 0 {
		pos = api.MaxNumber
	}
	switch l.below(9) {
	case 0, 1:
		return put(name, strconv.Itoa(l.below(3)))
	case 2:
		return del(name)
	case 3:
		return add(name, l.below(5)-2)
	case 4, 5:
		return cut(name, pos, 1+l.below(4))
	}
	return ins(name, pos, l.chars())
}

// some tells up to so many of the hashes, one of the last of them mostly.
func (l *list) some(from []api.Hash, most int) []api.Hash {
	var some []api.Hash
	for range l.below(most + 1) {
		if len(from) > 0 {
			reach := min(len(from), []int{3, 6, 1000}[l.below(3)])
			some = append(some, from[len(from)-1-l.below(reach)])
		}
	}
	return some
}

// graph tells a graph of so many changes by few authors, and their hashes as they came.
func (l *list) graph(t *testing.T, many, most int) (*dag.Graph, []api.Hash) {
	t.Helper()
	g := dag.New()
	var all []api.Hash
	for i := range many {
		deps, e := g.Reduce(l.some(all, 3))
		if e != api.OK {
			t.Fatalf("Reduce: %d", int(e))
		}
		var ops []api.Op
		for range l.below(most + 1) {
			ops = append(ops, l.op())
		}
		author := []string{"ann", "bob", "cid"}[l.below(3)]
		all = append(all, noted(t, g, strconv.Itoa(i), author, deps, ops...))
	}
	return g, all
}

// patch tells a patch to a document as it is; one in some twenty can't be, or nearly.
func (l *list) patch(d api.Doc) api.Patch {
	p := api.Patch{Kind: 1 + l.below(3), Name: l.name()}
	switch p.Kind {
	case api.PatchKey:
		for range l.below(3) {
			p.Values = append(p.Values, strconv.Itoa(l.below(9)))
		}
		p.Gone = len(p.Values) == 0
	case api.PatchCount:
		p.Gone = l.below(3) == 0
		if !p.Gone {
			p.By = l.below(9) - 4
		}
	case api.PatchText:
		size := 0
		for _, x := range d.Texts {
			if x.Name == p.Name {
				size = len(x.Chars)
			}
		}
		p.At = l.below(size + 1)
		p.Cut = min(l.below(4), size-p.At)
		if l.below(3) > 0 {
			p.Put = l.chars()
		}
	}
	if l.below(20) == 0 {
		l.spoil(&p)
	}
	return p
}

// spoil changes one of a patch's fields.
func (l *list) spoil(p *api.Patch) {
	switch l.below(6) {
	case 0:
		p.Kind = l.below(6) - 1
	case 1:
		p.Gone = !p.Gone
	case 2:
		p.By += 1
	case 3:
		p.At += l.below(9) - 4
	case 4:
		p.Cut += l.below(9) - 4
	case 5:
		p.Name = []string{"", "-", "a b", "B"}[l.below(4)]
	}
}
