package blame

import (
	"maps"
	"slices"

	"stemma/api"
	"stemma/change"
	"stemma/dag"
)

// tally is how many marks are by a change, how many of these are of values, and who made it.
type tally struct {
	author        string
	marks, values int
}

// tallies are changes' tallies by their hashes.
type tallies map[api.Hash]tally

// talliesOf tells tallies of changes that are there, before any mark is counted.
func talliesOf(g *dag.Graph, past []api.Hash) tallies {
	all := tallies{}
	for _, h := range past {
		b, _ := g.Bytes(h) // it is there, so these are a change's bytes
		c, _ := change.Get(b)
		all[h] = tally{author: c.Author}
	}
	return all
}

// count counts a mark for its change.
func (all tallies) count(m api.Mark) {
	t := all[m.By]
	switch m.Kind {
	case api.PatchKey:
		t.values++
		fallthrough
	case api.PatchText:
		t.marks++
	}
	all[m.By] = t
}

// shares tells how much each author has, by the names, rising, as a map has no order.
func (all tallies) shares() []Share {
	byAuthor := map[string]Share{}
	for _, t := range all {
		s := byAuthor[t.author]
		s.Author = t.author
		s.Values += t.values
		s.Chars += t.marks - t.values
		byAuthor[t.author] = s
	}
	var shares []Share
	for _, author := range slices.Sorted(maps.Keys(byAuthor)) {
		shares = append(shares, byAuthor[author])
	}
	return shares
}
