package dag_test

import (
	"slices"

	"stemma/api"
	"stemma/change"
	"stemma/hashes"
	"stemma/sha"
)

// plain is a graph told as the chapter tells it, without any thought of speed.
type plain struct {
	there, waiting []made
	most, pending  int // how many may be there, and may wait
}

// find tells the change of a hash, and whether the list has it.
func find(l []made, h api.Hash) (made, bool) {
	for _, m := range l {
		if m.h == h {
			return m, true
		}
	}
	return made{}, false
}

// known tells whether all hashes are there.
func (p *plain) known(l []api.Hash) bool {
	for _, h := range l {
		if _, there := find(p.there, h); !there {
			return false
		}
	}
	return true
}

// past tells the past of hashes that are there: they, and the Deps of all that is told.
func (p *plain) past(l []api.Hash) []api.Hash {
	var past []api.Hash
	for todo := slices.Clone(l); len(todo) > 0; todo = todo[1:] {
		if !hashes.Has(past, todo[0]) {
			past = append(past, todo[0])
			m, _ := find(p.there, todo[0])
			todo = append(todo, m.c.Deps...)
		}
	}
	return hashes.Sort(past)
}

// reduce tells those that are not in the past of another one.
func (p *plain) reduce(l []api.Hash) []api.Hash {
	unlike := hashes.Sort(l)
	out := unlike
	for _, h := range unlike {
		others := hashes.Minus(p.past([]api.Hash{h}), []api.Hash{h})
		out = hashes.Minus(out, others)
	}
	return out
}

// next tells an author's next numbers.
func (p *plain) next(author string, l []api.Hash) (seq, start int) {
	seq, start = 1, 1
	for _, h := range p.past(l) {
		m, _ := find(p.there, h)
		if m.c.Author == author {
			seq = max(seq, m.c.Seq+1)
		}
		start = max(start, m.c.Start+change.Size(m.c))
	}
	return seq, start
}

// order tells the past, again and again the least whose Deps have been taken.
func (p *plain) order(l []api.Hash) []api.Hash {
	left := p.past(l)
	var order []api.Hash
	for len(left) > 0 {
		i := slices.IndexFunc(left, func(h api.Hash) bool { // left is rising: the first one is the least
			m, _ := find(p.there, h)
			return !slices.ContainsFunc(m.c.Deps, func(dep api.Hash) bool { return !hashes.Has(order, dep) })
		})
		order = append(order, left[i])
		left = slices.Delete(left, i, i+1)
	}
	return order
}

// fits tells why a change does not fit.
func (p *plain) fits(c api.Change) api.Errno {
	seq, start := p.next(c.Author, c.Deps)
	switch {
	case len(p.reduce(c.Deps)) < len(c.Deps):
		return api.ErrDeps
	case c.Seq != seq:
		return api.ErrSeq
	case c.Start != start:
		return api.ErrStart
	}
	return api.OK
}

// add is Add of a change that may be.
func (p *plain) add(m made) api.Errno {
	_, there := find(p.there, m.h)
	_, waits := find(p.waiting, m.h)
	switch {
	case there || waits:
		return api.ErrThere
	case !p.known(m.c.Deps) && len(p.waiting) == p.pending:
		return api.ErrPending
	case !p.known(m.c.Deps):
		p.waiting = ranked(append(p.waiting, m)...)
		return api.OK
	case len(p.there) == p.most:
		return api.ErrFull
	}
	if e := p.fits(m.c); e != api.OK {
		return e
	}
	p.there = append(p.there, m)
	for {
		i := slices.IndexFunc(p.waiting, func(m made) bool { return p.known(m.c.Deps) })
		if i < 0 {
			return api.OK
		}
		first := p.waiting[i]
		p.waiting = slices.Delete(p.waiting, i, i+1)
		if len(p.there) < p.most && p.fits(first.c) == api.OK {
			p.there = append(p.there, first)
		}
	}
}

// heads tells those that are there and no Dep of another one.
func (p *plain) heads() []api.Hash {
	heads := deps(p.there...)
	for _, m := range p.there {
		heads = hashes.Minus(heads, m.c.Deps)
	}
	return heads
}

// missing tells the Deps of those that wait which neither are there nor wait.
func (p *plain) missing() []api.Hash {
	var l []api.Hash
	for _, m := range p.waiting {
		l = append(l, m.c.Deps...)
	}
	return hashes.Minus(hashes.Minus(l, deps(p.there...)), deps(p.waiting...))
}

// row is a row of numbers that looks like one without a rule, and is the same at each run.
type row uint64

// below tells the row's next number, from 0 to n - 1.
func (r *row) below(n int) int {
	*r = *r*6364136223846793005 + 1442695040888963407
	return int(uint64(*r) >> 33 % uint64(n))
}

// some tells up to n of a list's hashes, in any order, some of them twice.
func (r *row) some(l []made, n int) []api.Hash {
	var out []api.Hash
	if len(l) == 0 {
		return out
	}
	for range r.below(n + 1) {
		out = append(out, l[r.below(len(l))].h)
	}
	return out
}

// shuffled tells a list's things in another order.
func shuffled[T any](r *row, l []T) []T {
	out := slices.Clone(l)
	for i := range out {
		j := i + r.below(len(out)-i)
		out[i], out[j] = out[j], out[i]
	}
	return out
}

// change tells a change upon some of what p has there, that fits, or, one time in so many, does not.
func (r *row) change(p *plain, wrong int) api.Change {
	c := api.Change{Author: []string{"ann", "bob", "eve"}[r.below(3)], Ops: typed(r.below(4))}
	newest := p.there[max(0, len(p.there)-8):]
	c.Deps = p.reduce(r.some(newest, 3))
	c.Seq, c.Start = p.next(c.Author, c.Deps)
	if r.below(wrong) == 0 {
		switch r.below(3) {
		case 0:
			c.Deps = hashes.Sort(r.some(p.there, 3))
			c.Seq, c.Start = p.next(c.Author, c.Deps)
		case 1:
			c.Seq += 1 + r.below(2)
		case 2:
			c.Start += 1 + r.below(2)
		}
	}
	return c
}

// history tells n changes that all fit, each behind its Deps.
func (r *row) history(n int) []made {
	p := &plain{most: api.MaxChanges, pending: api.MaxPending}
	for len(p.there) < n {
		b, _ := change.Put(r.change(p, 1<<30))
		c, _ := change.Get(b)
		p.add(made{c, b, sha.Sum(b)})
	}
	return p.there
}
