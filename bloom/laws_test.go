package bloom_test

import (
	"bytes"
	"math"
	"slices"
	"testing"

	"stemma/api"
	"stemma/bloom"
)

// P9.4: a hash of the list is never missed, whatever the seed and the bits.
func TestNoneIsMissed(t *testing.T) {
	r := row(41)
	for _, many := range []int{1, 2, 3, 7, 8, 9, 100, 1000} {
		for _, seed := range []uint32{0, 1, 1 << 16, 1 << 31, math.MaxUint32, uint32(r.next())} {
			for _, bits := range []int{-5, 1, 2, 3, 7, 8, 10, 33, 64, 99} {
				l := append(r.list(many), api.Hash{}, high(), at(31, 1))
				b := bloom.Make(l, seed, bits)
				for _, h := range l {
					if !bloom.Has(b, h) {
						t.Fatalf("a filter of %d, seed %d, bits %d misses %x", len(l), seed, bits, h)
					}
				}
			}
		}
	}
}

// P9.4: neither is one of as many as may be.
func TestNoneIsMissedOfTheMost(t *testing.T) {
	l := sums(65536)
	for _, bits := range []int{1, 10, 64} {
		b := bloom.Make(l, 0xdeadbeef, bits)
		for i, h := range l {
			if !bloom.Has(b, h) {
				t.Fatalf("a filter of 65536, bits %d, misses the hash %d", bits, i)
			}
		}
	}
}

// P9.4: the order of the list, and what stands twice in it, play no part.
func TestOrderAndDoublesPlayNoPart(t *testing.T) {
	r := row(43)
	for range 300 {
		l := r.list(1 + r.below(30))
		seed, bits := uint32(r.next()), 1+r.below(64)
		want := bloom.Make(l, seed, bits)
		other := slices.Clone(l)
		for range r.below(40) {
			other = append(other, l[r.below(len(l))])
		}
		for i := range other {
			j := r.below(i + 1)
			other[i], other[j] = other[j], other[i]
		}
		if got := bloom.Make(other, seed, bits); !bytes.Equal(got, want) {
			t.Fatalf("Make of the same hashes in another order, some twice, = %x, want %x", got, want)
		}
		slices.Reverse(l)
		if got := bloom.Make(l, seed, bits); !bytes.Equal(got, want) {
			t.Fatalf("Make of the same hashes in the other order = %x, want %x", got, want)
		}
	}
	zero := api.Hash{}
	if got := bloom.Make([]api.Hash{zero, zero, zero}, 0, 8); string(got) != "\x01\x00\x08\x01" {
		t.Errorf("Make of one hash three times = %x", got)
	}
}

// P9.4: hashes that differ in what plays no part in their places are unlike all the same.
func TestUnlikeHashesOfTheSamePlaces(t *testing.T) {
	l := []api.Hash{at(31, 1), {}, at(12, 1), at(20, 9)}
	want := "\x04\x00\x08\x01\x00\x00\x00"
	if got := bloom.Make(l, 0, 8); string(got) != want {
		t.Errorf("Make of four hashes of one place = %x, want %x", got, want)
	}
}

// P9.3, P9.4: with ten bits a hash, few that are not of the list are had; with another seed it is others.
func TestFewOthersAreHad(t *testing.T) {
	r := row(47)
	l, others := r.list(1000), r.list(10000)
	first, second := bloom.Make(l, 1, 10), bloom.Make(l, 2, 10)
	inFirst, inBoth := 0, 0
	for _, h := range others {
		if bloom.Has(first, h) {
			inFirst++
			if bloom.Has(second, h) {
				inBoth++
			}
		}
	}
	if inFirst == 0 || inFirst > 300 || inBoth*2 > inFirst {
		t.Errorf("of 10000 others a filter has %d, and with another seed still %d", inFirst, inBoth)
	}
}
