package bloom_test

import (
	"math"
	"slices"
	"testing"

	"stemma/api"
	"stemma/bloom"
)

// expectHas asks whether a filter may have a hash.
func expectHas(t *testing.T, b string, h api.Hash, want bool) {
	t.Helper()
	if got := bloom.Has([]byte(b), h); got != want {
		t.Errorf("Has(%.40x, %x) = %t", b, h, got)
	}
}

// P9.3: the chapter's examples, and a filter of none has none, whatever its numbers are.
func TestHasExamples(t *testing.T) {
	expectHas(t, "\x01\x00\x08\x01", api.Hash{}, true)
	expectHas(t, "\x01\x00\x08\x01", api.Hash{3}, false)
	for _, none := range []string{"\x00\x00\x0a", "\x00\x00\x01", "\x00\x07\x40", head(0, math.MaxUint32, 64)} {
		for _, h := range []api.Hash{{}, {1}, high(), at(31, 1)} {
			expectHas(t, none, h, false)
		}
	}
}

// P9.3: each of the seven places is asked, and no other one.
func TestHasAsksEachPlace(t *testing.T) {
	y, z := at(4, 1), at(8, 1)
	for _, x := range []struct {
		h      api.Hash
		seed   uint64
		places []int
	}{
		{y, 0, []int{0, 1, 2, 3, 4, 5, 6}},
		{z, 0, []int{0, 0, 1, 3, 6, 10, 15}},
		{api.Hash{}, 0, []int{0}},
		{api.Hash{5}, 0, []int{5}},
		{api.Hash{63}, 0, []int{63}},
		{api.Hash{64}, 0, []int{0}},
		{api.Hash{}, 1, []int{1, 2, 4, 7, 11, 16, 22}},
		{high(), 0, []int{63, 62, 60, 57, 53, 48, 42}},
		{high(), math.MaxUint32, []int{0}},
	} {
		field := make([]byte, 8)
		for _, place := range x.places {
			field[place/8] |= 1 << (place % 8)
		}
		begin := head(1, x.seed, 64)
		expectHas(t, begin+string(field), x.h, true)
		expectHas(t, begin+ones(8), x.h, true)
		for place := range 64 {
			one := slices.Clone(field)
			one[place/8] ^= 1 << (place % 8)
			expectHas(t, begin+string(one), x.h, !slices.Contains(x.places, place))
			all := []byte(ones(8))
			all[place/8] ^= 1 << (place % 8)
			expectHas(t, begin+string(all), x.h, !slices.Contains(x.places, place))
		}
	}
}

// P9.3: the spare bits of the last byte are places too.
func TestHasInSpareBits(t *testing.T) {
	for bits := uint64(1); bits <= 8; bits++ {
		for first := range 8 {
			h := api.Hash{byte(first)}
			for b := range 256 {
				expectHas(t, head(1, 0, bits)+string([]byte{byte(b)}), h, b>>first&1 == 1)
			}
		}
	}
}

// P9.3: any bits, any numbers, any hash, held against places told one by one.
func TestHasHeldAgainstPlaces(t *testing.T) {
	r := row(31)
	had := 0
	for range 50000 {
		many, bits, seed := 1+r.below(6), 1+r.below(64), uint32(r.next())
		field := make([]byte, (many*bits+7)/8)
		for i := range field {
			field[i] = byte(r.next() | r.next() | r.next()) // most bits are 1, so that about half are had
		}
		h, want := r.hash(), true
		for _, place := range placesPlainly(h, seed, len(field)*8) {
			want = want && field[place/8]>>(place%8)&1 == 1
		}
		if want {
			had++
		}
		expectHas(t, head(uint64(many), uint64(seed), uint64(bits))+string(field), h, want)
	}
	if had < 10000 || had > 40000 {
		t.Errorf("%d of 50000 were had: the test looks at one side alone", had)
	}
}

// P9.3: n of the filter, unlike hashes alone.
func TestMany(t *testing.T) {
	r := row(37)
	for _, many := range []int{0, 1, 2, 127, 128, 300, 4096} {
		l := r.list(many)
		b := bloom.Make(append(l, l...), 77, 3)
		if got := bloom.Many(b); got != many {
			t.Errorf("Many of a filter of %d = %d", many, got)
		}
		if got := bloom.Many(append(b, 0)); got != 0 {
			t.Errorf("Many of a filter of %d and one byte behind = %d", many, got)
		}
		if got := bloom.Many(b[:len(b)-1]); got != 0 {
			t.Errorf("Many of a filter of %d without its last byte = %d", many, got)
		}
	}
}
