package dag

import (
	"math"
	"slices"
	"sort"

	"stemma/api"
	"stemma/hashes"
	"stemma/sha"
)

// Past tells the past of some changes.
func (g *Graph) Past(heads []api.Hash) ([]api.Hash, api.Errno) {
	if e := g.refusal(heads); e != api.OK {
		return nil, e
	}
	return hashes.Sort(g.past(heads)), api.OK
}

// Order tells the past of some changes, each behind its deps.
func (g *Graph) Order(heads []api.Hash) ([]api.Hash, api.Errno) {
	if e := g.refusal(heads); e != api.OK {
		return nil, e
	}
	return g.ordered(g.past(heads)), api.OK
}

// Reduce tells those that are not in the past of another one.
func (g *Graph) Reduce(l []api.Hash) ([]api.Hash, api.Errno) {
	if e := g.refusal(l); e != api.OK {
		return nil, e
	}
	return g.reduced(hashes.Sort(l)), api.OK
}

// Next tells an author's next numbers.
func (g *Graph) Next(author string, heads []api.Hash) (seq, start int, e api.Errno) {
	if !hashes.Name(author) {
		return 0, 0, api.ErrName
	}
	if e := g.refusal(heads); e != api.OK {
		return 0, 0, e
	}
	return g.nextSeq(author, heads), g.nextStart(heads), api.OK
}

// refusal tells why nothing is told of these hashes.
func (g *Graph) refusal(l []api.Hash) api.Errno {
	if g == nil {
		return api.ErrNil
	}
	if !g.there.hasAll(l) {
		return api.ErrUnknown
	}
	return api.OK
}

// walk visits the past of hashes that are there, each once; where visit tells no, it goes not on to the Deps.
func (g *Graph) walk(from []api.Hash, visit func(h api.Hash, n *node) bool) {
	seen := make(map[api.Hash]struct{})
	var step func(l []api.Hash)
	step = func(l []api.Hash) {
		for _, h := range l {
			if _, been := seen[h]; been {
				continue
			}
			seen[h] = struct{}{}
			if n := g.there[h]; visit(h, n) {
				step(n.deps)
			}
		}
	}
	step(from)
}

// past tells the past of hashes that are there, in any order.
func (g *Graph) past(heads []api.Hash) []api.Hash {
	var past []api.Hash
	g.walk(heads, func(h api.Hash, _ *node) bool {
		past = append(past, h)
		return true
	})
	return past
}

// reduced tells those of unlike hashes that are there which are not in the past of another one, rising.
func (g *Graph) reduced(unlike []api.Hash) []api.Hash {
	if len(unlike) < 2 { // most changes have one Dep, which is in no other one's past
		return unlike
	}
	least := math.MaxInt
	var deps, below []api.Hash
	for _, h := range unlike {
		least = min(least, g.there[h].end)
		deps = append(deps, g.there[h].deps...)
	}
	g.walk(deps, func(h api.Hash, n *node) bool {
		below = append(below, h)
		return n.end >= least // no change ends behind one that it is in the past of, so deeper down there is none of these
	})
	return hashes.Minus(unlike, below)
}

// nextSeq tells the author's next seq upon hashes that are there.
func (g *Graph) nextSeq(author string, heads []api.Hash) int {
	greatest := 0
	g.walk(heads, func(_ api.Hash, n *node) bool {
		if n.author != author {
			return true
		}
		greatest = max(greatest, n.seq)
		return false // the author's changes in the past of this one have lesser ones
	})
	return greatest + 1
}

// nextStart tells the next start upon hashes that are there. No change in their past ends behind them all, so their
// own ends tell it.
func (g *Graph) nextStart(heads []api.Hash) int {
	start := 1
	for _, h := range heads {
		start = max(start, g.there[h].end)
	}
	return start
}

// ordered tells the changes of a past, taking again and again the least of those whose Deps have been taken.
func (g *Graph) ordered(past []api.Hash) []api.Hash {
	lacking := make(map[api.Hash]int, len(past)) // how many of its Deps have not been taken
	upon := make(map[api.Hash][]api.Hash)        // those whose Dep it is
	var ready []api.Hash
	for _, h := range past {
		deps := g.there[h].deps
		lacking[h] = len(deps)
		if len(deps) == 0 {
			ready = withFalling(ready, h)
		}
		for _, dep := range deps {
			upon[dep] = append(upon[dep], h)
		}
	}
	order := make([]api.Hash, 0, len(past))
	for len(ready) > 0 {
		last := len(ready) - 1
		least := ready[last]
		ready = ready[:last]
		order = append(order, least)
		for _, h := range upon[least] {
			lacking[h]--
			if lacking[h] == 0 {
				ready = withFalling(ready, h)
			}
		}
	}
	return order
}

// withFalling tells a falling list with one hash more, at its place. It falls so that the least is taken off its end.
func withFalling(l []api.Hash, h api.Hash) []api.Hash {
	place := sort.Search(len(l), func(i int) bool { return sha.Less(l[i], h) })
	return slices.Insert(l, place, h)
}
