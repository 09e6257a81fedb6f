package dag

import (
	"bytes"

	"stemma/api"
	"stemma/change"
	"stemma/sha"
)

// Add takes a change's bytes.
func (g *Graph) Add(b []byte) (api.Hash, api.Errno) {
	if g == nil {
		return api.Hash{}, api.ErrNil
	}
	c, e := change.Get(b)
	if e != api.OK {
		return api.Hash{}, api.ErrForm
	}
	h := sha.Sum(b)
	if g.there.has(h) || g.waiting.has(h) {
		return h, api.ErrThere
	}
	if e := g.take(h, nodeOf(c, b)); e != api.OK {
		return api.Hash{}, e
	}
	return h, api.OK
}

// nodeOf tells the node of a change and its bytes.
func nodeOf(c api.Change, b []byte) *node {
	return &node{
		bytes:  bytes.Clone(b),
		author: c.Author,
		seq:    c.Seq,
		start:  c.Start,
		end:    c.Start + change.Size(c),
		deps:   c.Deps,
	}
}

// take brings a new change in: there, with what waited for it, or to those that wait.
func (g *Graph) take(h api.Hash, n *node) api.Errno {
	if !g.there.hasAll(n.deps) {
		if len(g.waiting) >= api.MaxPending {
			return api.ErrPending
		}
		g.waiting[h] = n
		return api.OK
	}
	if e := g.admit(h, n); e != api.OK {
		return e
	}
	g.settle()
	return api.OK
}

// admit brings a change there whose Deps are there, or tells why it may not be.
func (g *Graph) admit(h api.Hash, n *node) api.Errno {
	if len(g.there) >= api.MaxChanges {
		return api.ErrFull
	}
	if e := g.misfit(n); e != api.OK {
		return e
	}
	g.there[h] = n
	return api.OK
}

// misfit tells why a change whose Deps are there does not fit.
func (g *Graph) misfit(n *node) api.Errno {
	switch {
	case len(g.reduced(n.deps)) != len(n.deps):
		return api.ErrDeps
	case n.seq != g.nextSeq(n.author, n.deps):
		return api.ErrSeq
	case n.start != g.nextStart(n.deps):
		return api.ErrStart
	}
	return api.OK
}

// settle brings those there that waited for what is there now, one by one, as each may be what others wait for.
func (g *Graph) settle() {
	for {
		h, found := g.leastReady()
		if !found {
			return
		}
		n := g.waiting[h]
		delete(g.waiting, h)
		g.admit(h, n) // what is refused here is forgotten
	}
}

// leastReady tells, of those that wait and have all Deps there, the least hash.
func (g *Graph) leastReady() (least api.Hash, found bool) {
	for h, n := range g.waiting {
		if g.there.hasAll(n.deps) && (!found || sha.Less(h, least)) {
			least, found = h, true
		}
	}
	return least, found
}
