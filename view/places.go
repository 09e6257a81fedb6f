package view

import "slices"

// places is a set of changes by their places: a bit for each. Those that are held against one another have room for the same places.
type places []uint64

// noneOf tells an empty set with room for so many places.
func noneOf(room int) places {
	return make(places, (room+63)/64)
}

// add takes a place.
func (p places) add(at int) {
	p[at/64] |= 1 << (at % 64)
}

// has tells whether the set has a place.
func (p places) has(at int) bool {
	return p[at/64]>>(at%64)&1 == 1
}

// hasAny tells whether the set has one of some places.
func (p places) hasAny(l []int) bool {
	return slices.ContainsFunc(l, p.has)
}

// join takes all places of another set.
func (p places) join(other places) {
	for i := range other {
		p[i] |= other[i]
	}
}

// alike tells whether two others have the same of the set's places.
func (p places) alike(a, b places) bool {
	for i, bits := range p {
		if bits&a[i] != bits&b[i] {
			return false
		}
	}
	return true
}
