package bloom

import (
	"math"

	"stemma/api"
	"stemma/leb"
)

// What the numbers of a filter may be.
const (
	mostHashes = 1 << 16
	mostSeed   = math.MaxUint32
	leastBits  = 1
	mostBits   = 64
)

// parts are the numbers that a filter is made of: never the empty ones, as bits is at least 1.
type parts struct {
	many uint64 // hashes
	seed uint64
	bits uint64 // for each hash
}

// read tells a filter's parts and the bytes that its bits are in, or the empty parts and none of what is no filter.
func read(b []byte) (parts, []byte) {
	var numbers [3]uint64
	for i := range numbers {
		n, used, e := leb.GetUint(b)
		if e != api.OK {
			return parts{}, nil
		}
		numbers[i], b = n, b[used:]
	}
	p := parts{many: numbers[0], seed: numbers[1], bits: numbers[2]}
	if !p.may() || uint64(len(b)) != p.size() {
		return parts{}, nil
	}
	return p, b
}

// may tells whether each number is one that a filter may have.
func (p parts) may() bool {
	return p.many <= mostHashes && p.seed <= mostSeed && leastBits <= p.bits && p.bits <= mostBits
}

// size tells how many bytes the bits are in.
func (p parts) size() uint64 {
	return (p.many*p.bits + 7) / 8
}

// head lays the numbers.
func (p parts) head() []byte {
	b := append(leb.Uint(p.many), leb.Uint(p.seed)...)
	return append(b, leb.Uint(p.bits)...)
}
