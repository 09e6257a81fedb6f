package bloom_test

import (
	"math"
	"strings"
	"testing"

	"stemma/api"
	"stemma/bloom"
)

// ones tells bytes of which all bits are 1.
func ones(n int) string { return strings.Repeat("\xff", n) }

// expectFilter asks that bytes are a filter of so many hashes.
func expectFilter(t *testing.T, b string, many int) {
	t.Helper()
	if e, n := bloom.Check([]byte(b)), bloom.Many([]byte(b)); e != api.OK || n != many {
		t.Errorf("%.20x (%d bytes): Check = %d, Many = %d; want a filter of %d", b, len(b), int(e), n, many)
	}
}

// expectNone asks that all calls answer as of bytes that are no filter.
func expectNone(t *testing.T, b string) {
	t.Helper()
	if e, n := bloom.Check([]byte(b)), bloom.Many([]byte(b)); e != api.ErrForm || n != 0 {
		t.Errorf("%.20x (%d bytes): Check = %d, Many = %d; want no filter", b, len(b), int(e), n)
	}
	for _, h := range []api.Hash{{}, {1}, high()} {
		if bloom.Has([]byte(b), h) {
			t.Errorf("%.20x (%d bytes) is no filter and has %x", b, len(b), h)
		}
	}
}

// P9.2: each number at its edges, with just as many bytes behind.
func TestCheckNumbers(t *testing.T) {
	for _, many := range []uint64{0, 1, 2, 3, 7, 8, 9, 127, 128, 4096, 65535, 65536} {
		for _, seed := range []uint64{0, 1, 127, 128, 1 << 31, math.MaxUint32 - 1, math.MaxUint32} {
			for _, bits := range []uint64{1, 2, 7, 8, 9, 10, 63, 64} {
				size := int(math.Ceil(float64(many*bits) / 8))
				expectFilter(t, head(many, seed, bits)+ones(size), int(many))
			}
		}
	}
}

// P9.2: one number that may not be, with as many bytes behind as there would be of it.
func TestCheckWrongNumbers(t *testing.T) {
	for _, many := range []uint64{65537, 65538, 1 << 17, 1 << 20} {
		for _, bits := range []uint64{1, 8, 10, 64} {
			expectNone(t, head(many, 0, bits)+ones(int((many*bits+7)/8)))
		}
	}
	for _, seed := range []uint64{1 << 32, 1<<32 + 1, 1 << 33, 1 << 40, 1 << 63, math.MaxUint64} {
		expectNone(t, head(0, seed, 10))
		expectNone(t, head(1, seed, 10)+ones(2))
	}
	for _, bits := range []uint64{0, 65, 66, 128, 256, 257, 1 << 10} {
		expectNone(t, head(0, 0, bits))
		expectNone(t, head(1, 0, bits)+ones(int((bits+7)/8)))
		expectNone(t, head(9, 0, bits)+ones(int((9*bits+7)/8)))
	}
}

// P9.2: numbers whose product is beyond all numbers, or comes round to a small one.
func TestCheckGreatNumbers(t *testing.T) {
	greats := []uint64{1 << 16, 1<<16 + 1, 1 << 32, 1<<32 + 1, 1 << 58, 1<<58 + 1, 1 << 61, 1 << 63, 1<<63 + 1, math.MaxUint64}
	for _, n := range greats {
		for size := range 20 {
			for _, other := range []uint64{1, 2, 8, 64} {
				expectNone(t, head(n, 0, other)+ones(size))
				expectNone(t, head(other, 0, n)+ones(size))
				expectNone(t, head(n, n, n)+ones(size))
			}
		}
	}
}

// P9.2: bytes behind, one too few or too many, or many.
func TestCheckBytesBehind(t *testing.T) {
	for many := uint64(0); many < 20; many++ {
		for bits := uint64(1); bits <= 64; bits++ {
			size := 0
			for uint64(size*8) < many*bits {
				size++
			}
			for n := range size + 12 {
				if b := head(many, 300, bits) + ones(n); n == size {
					expectFilter(t, b, int(many))
				} else {
					expectNone(t, b)
				}
			}
		}
	}
	expectNone(t, head(0, 0, 10)+"\x00")
	expectNone(t, head(65536, 0, 64)+ones(1<<19-1))
	expectNone(t, head(65536, 0, 64)+ones(1<<19+1))
}

// P9.2: whatever the bits are, the spare ones too, it is a filter.
func TestCheckAnyBits(t *testing.T) {
	for b := range 256 {
		expectFilter(t, "\x01\x00\x08"+string([]byte{byte(b)}), 1)
		expectFilter(t, "\x03\x05\x01"+string([]byte{byte(b)}), 3)
	}
}

// P9.2: numbers that are cut, or not laid the one way.
func TestCheckNumbersOfOtherForms(t *testing.T) {
	whole := head(300, math.MaxUint32, 10)
	for n := range len(whole) {
		expectNone(t, whole[:n])
	}
	expectFilter(t, whole+ones(375), 300)
	for _, b := range []string{
		"", "\x80", "\x00", "\x00\x80", "\x00\x00", "\x00\x00\x80",
		"\x80\x00\x00\x0a",                               // 0, not in the fewest bytes
		"\x00\x80\x00\x0a",                               // the seed
		"\x00\x00\x8a\x00",                               // bits
		"\x81\x00\x00\x08\xff",                           // 1
		"\x01\x81\x00\x08\xff",                           // the seed
		"\x01\x00\x88\x00\xff",                           // bits
		"\x00\xff\xff\xff\xff\x8f\x00\x0a",               // 2^32 - 1
		ones(9) + "\x02\x00\x0a",                         // beyond all numbers
		"\x00" + ones(9) + "\x02\x0a",                    // the seed
		"\x00\x00" + ones(9) + "\x02",                    // bits
		strings.Repeat("\x80", 10) + "\x00",              // more than ten bytes
		"\x00\x00" + strings.Repeat("\x80", 10),          // bits
		"\x00" + strings.Repeat("\x80", 9) + "\x02\x0a",  // 2^64
		"\x00" + strings.Repeat("\x80", 4) + "\x10\x0a",  // 2^32
		strings.Repeat("\x80", 2) + "\x04\x00" + ones(1), // 65536, and bits cut off
		ones(300),
	} {
		expectNone(t, b)
	}
}

// P9.2, P9.3: the chapter's examples.
func TestCheckExamples(t *testing.T) {
	expectNone(t, "")
	expectFilter(t, "\x00\x00\x0a", 0)
	expectFilter(t, "\x01\x00\x08\x01", 1)
	if e := bloom.Check(nil); e != api.ErrForm {
		t.Errorf("Check(nil) = %d", int(e))
	}
}

// number takes a number off by chapter 2's words, if it has at most nine bytes; used is 0 where there is none.
func number(b string) (n uint64, used int) {
	for i := 0; i < len(b) && i < 9; i++ {
		n += uint64(b[i]&0x7f) << (7 * i)
		if b[i] < 0x80 {
			if i > 0 && b[i] == 0 {
				return 0, 0
			}
			return n, i + 1
		}
	}
	return 0, 0
}

// P9.2, P9.3: short bytes of all kinds, held against the chapter's words.
func TestCheckAnyBytes(t *testing.T) {
	r := row(23)
	for range 200000 {
		b := make([]byte, r.below(9))
		for i := range b {
			b[i] = byte([]int{0, 1, 2, 8, 10, 64, 65, 128, 129, 255}[r.below(10)])
		}
		rest, numbers, whole := string(b), [3]uint64{}, true
		for i := range numbers {
			n, used := number(rest)
			numbers[i], rest = n, rest[used:]
			whole = whole && used > 0
		}
		many, bits := numbers[0], numbers[2]
		if whole && many <= 65536 && numbers[1] < 1<<32 && bits >= 1 && bits <= 64 && len(rest) == int((many*bits+7)/8) {
			expectFilter(t, string(b), int(many))
		} else {
			expectNone(t, string(b))
		}
	}
}
