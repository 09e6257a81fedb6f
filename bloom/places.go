package bloom

import (
	"iter"

	"stemma/api"
)

// placesOfHash is how many places a hash has.
const placesOfHash = 7

// places tells the places of a hash, one behind the other; there must be a bit.
func (p parts) places(h api.Hash) iter.Seq[uint64] {
	return func(yield func(uint64) bool) {
		all := p.size() * 8 // the spare bits of the last byte are among them
		x, y, z := p.number(h[0:4])%all, p.number(h[4:8])%all, p.number(h[8:12])%all
		for range placesOfHash {
			if !yield(x) {
				return
			}
			x, y = (x+y)%all, (y+z)%all
		}
	}
}

// number tells the number that bytes make, the lowest one first, mixed with the seed.
func (p parts) number(b []byte) uint64 {
	n := uint64(0)
	for i, digit := range b {
		n |= uint64(digit) << (8 * i)
	}
	return n ^ p.seed
}
