package hashes

import (
	"sort"

	"stemma/api"
	"stemma/sha"
)

// set is hashes without an order, each once.
type set map[api.Hash]struct{}

// setOf tells the hashes of lists.
func setOf(lists ...[]api.Hash) set {
	s := make(set)
	for _, l := range lists {
		for _, h := range l {
			s[h] = struct{}{}
		}
	}
	return s
}

// part tells those of s that other has, or those that it has not.
func (s set) part(other set, has bool) set {
	p := make(set)
	for h := range s {
		if _, there := other[h]; there == has {
			p[h] = struct{}{}
		}
	}
	return p
}

// rising tells the hashes in their order, which a map has not.
func (s set) rising() []api.Hash {
	l := make([]api.Hash, 0, len(s))
	for h := range s {
		l = append(l, h)
	}
	sort.Slice(l, func(i, j int) bool { return sha.Less(l[i], l[j]) })
	return l
}
