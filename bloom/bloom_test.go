package bloom_test

import (
	"math"
	"slices"
	"strconv"
	"strings"
	"testing"

	"stemma/api"
	"stemma/bloom"
	"stemma/leb"
	"stemma/sha"
)

// row is a row of numbers that looks like one without a rule, and is the same at each run.
type row uint64

// next tells the row's next number.
func (r *row) next() uint64 {
	*r = *r*6364136223846793005 + 1442695040888963407
	return uint64(*r) >> 32
}

// below tells the row's next number, from 0 to n - 1.
func (r *row) below(n int) int { return int(r.next() % uint64(n)) }

// hash tells a hash whose bytes are the row's next ones.
func (r *row) hash() (h api.Hash) {
	for i := range h {
		h[i] = byte(r.below(256))
	}
	return h
}

// list tells n of the row's next hashes.
func (r *row) list(n int) []api.Hash {
	l := make([]api.Hash, n)
	for i := range l {
		l[i] = r.hash()
	}
	return l
}

// sums tells the sums of the texts 0, 1, 2 and so on.
func sums(n int) []api.Hash {
	l := make([]api.Hash, n)
	for i := range l {
		l[i] = sha.Sum([]byte(strconv.Itoa(i)))
	}
	return l
}

// at tells the hash of noughts but for one byte.
func at(place int, b byte) (h api.Hash) {
	h[place] = b
	return h
}

// high tells the hash of which all bytes are 255.
func high() (h api.Hash) {
	for i := range h {
		h[i] = 0xff
	}
	return h
}

// head tells the bytes of three numbers.
func head(many, seed, bits uint64) string {
	return string(leb.Uint(many)) + string(leb.Uint(seed)) + string(leb.Uint(bits))
}

// placesPlainly tells the seven places of a hash: the k-th one is x, k times y, and k (k - 1) / 2 times z, told at once and not step by step.
func placesPlainly(h api.Hash, seed uint32, all int) []int {
	number := func(from int) uint64 {
		low := uint32(h[from]) + uint32(h[from+1])*256 + uint32(h[from+2])*65536 + uint32(h[from+3])*16777216
		return uint64(low ^ seed)
	}
	var l []int
	for k := uint64(0); k < 7; k++ {
		l = append(l, int((number(0)+k*number(4)+k*(k-1)/2*number(8))%uint64(all)))
	}
	return l
}

// makePlainly tells the filter of hashes that are all unlike, its bits one by one.
func makePlainly(unlike []api.Hash, seed uint32, bits int) string {
	size := 0
	for size*8 < len(unlike)*bits {
		size++
	}
	truths := make([]bool, size*8)
	for _, h := range unlike {
		for _, place := range placesPlainly(h, seed, len(truths)) {
			truths[place] = true
		}
	}
	field := make([]byte, size)
	for place, truth := range truths {
		if truth {
			field[place/8] += byte(1 << (place % 8))
		}
	}
	return head(uint64(len(unlike)), uint64(seed), uint64(bits)) + string(field)
}

// expectMake asks for a filter, and that it is one.
func expectMake(t *testing.T, l []api.Hash, seed uint32, bits int, want string) {
	t.Helper()
	got := bloom.Make(l, seed, bits)
	if string(got) != want {
		t.Errorf("Make of %d hashes, seed %d, bits %d = %.40x (%d bytes), want %.40x (%d bytes)", len(l), seed, bits, got, len(got), want, len(want))
	}
	if e := bloom.Check(got); e != api.OK {
		t.Errorf("Check of what Make made of %d hashes, seed %d, bits %d = %d", len(l), seed, bits, int(e))
	}
}

// P9.1: the chapter's examples.
func TestMakeExamples(t *testing.T) {
	expectMake(t, nil, 0, 10, "\x00\x00\x0a")
	expectMake(t, []api.Hash{{}}, 0, 8, "\x01\x00\x08\x01")
}

// P9.1: none, with every number.
func TestMakeOfNone(t *testing.T) {
	for _, none := range [][]api.Hash{nil, {}} {
		expectMake(t, none, 1, 1, "\x00\x01\x01")
		expectMake(t, none, 127, 64, "\x00\x7f\x40")
		expectMake(t, none, 128, 63, "\x00\x80\x01\x3f")
		expectMake(t, none, 1<<31, 2, "\x00\x80\x80\x80\x80\x08\x02")
		expectMake(t, none, math.MaxUint32, 10, "\x00\xff\xff\xff\xff\x0f\x0a")
	}
}

// P9.1: filters that another program worked out; where n times bits fills no whole bytes, the spare bits are places too.
func TestMakeOfFew(t *testing.T) {
	three := []api.Hash{sha.Sum([]byte("a")), sha.Sum([]byte("b")), sha.Sum([]byte("c"))}
	one := []api.Hash{sha.Sum([]byte("abc"))}
	for _, x := range []struct {
		l    []api.Hash
		seed uint32
		bits int
		want string
	}{
		{three, 0, 10, "\x03\x00\x0a\x21\xf4\xd3\x59"},
		{three, 1, 10, "\x03\x01\x0a\x8d\x88\xc9\xbb"},
		{three, math.MaxUint32, 10, "\x03\xff\xff\xff\xff\x0f\x0a\xbf\x8c\xb3\x48"},
		{three, 300, 1, "\x03\xac\x02\x01\xff"},
		{three, 0, 64, "\x03\x00\x40\x01\x00\x80\x01\x00\x30\x02\x00\x00\x04\xc0\x00\x00\x40\x01\x58\x00\xc0\x10\x01\x20\x00\x01\x40"},
		{three, 1 << 31, 7, "\x03\x80\x80\x80\x80\x08\x07\xb0\x5f\xc1"},
		{three, 7, 3, "\x03\x07\x03\x99\xee"},
		{one, 0, 1, "\x01\x00\x01\x9e"},
		{one, 0, 10, "\x01\x00\x0a\x08\x96"},
		{one, 5, 9, "\x01\x05\x09\x80\x82"},
		{one, 0, 16, "\x01\x00\x10\x08\x96"},
		{one, 0xdeadbeef, 64, "\x01\xef\xfd\xb6\xf5\x0d\x40\x8a\x00\x20\x00\x00\x02\x20\x80"},
	} {
		expectMake(t, x.l, x.seed, x.bits, x.want)
	}
}

// P9.1: which bytes of a hash tell its places, and how; worked out by another program.
func TestMakePlaces(t *testing.T) {
	for place, field := range []string{
		"\x02\x00\x00\x00\x00\x00\x00", // x: 1, and it stays there
		"\x00\x00\x00\x00\x01\x00\x00", // 2^8, 2^16 and 2^24, brought below 56
		"\x00\x00\x01\x00\x00\x00\x00",
		"\x00\x01\x00\x00\x00\x00\x00",
		"\x7f\x00\x00\x00\x00\x00\x00", // y: 0 1 2 3 4 5 6
		"\x01\x01\x01\x01\x01\x01\x01",
		"\x01\x01\x01\x01\x01\x01\x01",
		"\x01\x01\x01\x01\x01\x01\x01",
		"\x4b\x84\x00\x00\x00\x00\x00", // z: 0 0 1 3 6 10 15
		"\x01\x00\x00\x01\x01\x01\x00",
		"\x01\x00\x01\x00\x00\x01\x01",
		"\x01\x01\x00\x01\x00\x00\x01",
	} {
		expectMake(t, []api.Hash{at(place, 1)}, 0, 56, "\x01\x00\x38"+field)
	}
	for place := 12; place < 32; place++ { // these play no part
		expectMake(t, []api.Hash{at(place, 0xff)}, 0, 56, "\x01\x00\x38\x01\x00\x00\x00\x00\x00\x00")
	}
	expectMake(t, []api.Hash{high()}, 0, 64, "\x01\x00\x40\x00\x00\x00\x00\x00\x04\x21\xd2") // 63 62 60 57 53 48 42
}

// P9.1: what the seed does to each of the three numbers; worked out by another program.
func TestMakeSeeds(t *testing.T) {
	zero := []api.Hash{{}}
	expectMake(t, zero, 1, 56, "\x01\x01\x38\x96\x08\x41\x00\x00\x00\x00") // 1 2 4 7 11 16 22
	expectMake(t, zero, 1<<8, 56, "\x01\x80\x02\x38\x01\x01\x01\x00\x01\x00\x00")
	expectMake(t, zero, 1<<16, 56, "\x01\x80\x80\x04\x38\x01\x01\x01\x00\x01\x00\x00")
	expectMake(t, zero, 1<<24, 56, "\x01\x80\x80\x80\x08\x38\x01\x01\x01\x00\x01\x00\x00")
	expectMake(t, zero, math.MaxUint32, 56, "\x01\xff\xff\xff\xff\x0f\x38\x60\x14\x00\x80\x00\x00\x03") // 31 6 12 49 5 48 10
	expectMake(t, []api.Hash{high()}, math.MaxUint32, 56, "\x01\xff\xff\xff\xff\x0f\x38\x01\x00\x00\x00\x00\x00\x00")
	expectMake(t, []api.Hash{at(3, 0x80)}, 1, 63, "\x01\x01\x3f\x96\x08\x41\x00\x00\x00\x00\x00")
	both := at(4, 3)
	both[8] = 5
	expectMake(t, []api.Hash{both}, 2, 60, "\x01\x02\x3c\x0c\x28\x00\x04\x00\x00\x03\x00") // 2 3 11 26 48 13 49
}

// P9.1: great filters, whose sums another program worked out.
func TestMakeOfMany(t *testing.T) {
	for _, x := range []struct {
		many   int
		seed   uint32
		bits   int
		length int
		sum    string
	}{
		{1000, 12345, 10, 1255, "f8fa1a4efee41c36b70661b798dd322314c684f99033021c8103b410640f9c9b"},
		{65536, math.MaxUint32, 64, 524297, "878411329259b74bc717c649c8ad37c06c265cb0261eaf99dda471891f0c227d"},
		{65536, 9, 1, 8197, "e8bed88ae9c94e78bc80da440b4ecb416d78dde7b884ce57464210f795a186f4"},
	} {
		b := bloom.Make(sums(x.many), x.seed, x.bits)
		if sum := sha.Hex(sha.Sum(b)); len(b) != x.length || sum != x.sum {
			t.Errorf("Make of %d, seed %d, bits %d: %d bytes of the sum %s, want %d of %s", x.many, x.seed, x.bits, len(b), sum, x.length, x.sum)
		}
		if e, many := bloom.Check(b), bloom.Many(b); e != api.OK || many != x.many {
			t.Errorf("Make of %d, seed %d, bits %d: Check = %d, Many = %d", x.many, x.seed, x.bits, int(e), many)
		}
	}
}

// P9.1: bits is brought into 1 to 64 first.
func TestMakeBringsBits(t *testing.T) {
	r := row(3)
	for _, l := range [][]api.Hash{nil, {{}}, r.list(2), r.list(9)} {
		for bits, brought := range map[int]int{
			1: 1, 2: 2, 63: 63, 64: 64,
			0: 1, -1: 1, -64: 1, math.MinInt: 1, math.MinInt32: 1, -1 << 32: 1, -1<<32 + 10: 1,
			65: 64, 66: 64, 128: 64, 256: 64, 257: 64, 1 << 32: 64, 1<<32 + 10: 64, math.MaxInt: 64, math.MaxInt32: 64,
		} {
			expectMake(t, l, 5, bits, makePlainly(l, 5, brought))
		}
	}
}

// P9.1: each number of bits with each of few hashes, held against places told one by one.
func TestMakeHeldAgainstPlaces(t *testing.T) {
	r := row(17)
	for bits := 1; bits <= 64; bits++ {
		for many := range 20 {
			l := r.list(many)
			seed := uint32(r.next())
			expectMake(t, l, seed, bits, makePlainly(l, seed, bits))
		}
	}
}

// P9.1: Make lays more hashes than a filter may be of, too; P9.2 and P9.3 say that these bytes are none.
func TestMakeOfTooMany(t *testing.T) {
	l := sums(65537)
	b := bloom.Make(l, 0, 1)
	if want := makePlainly(l, 0, 1); string(b) != want || !strings.HasPrefix(want, "\x81\x80\x04\x00\x01") {
		t.Errorf("Make of 65537 hashes = %.8x.. (%d bytes), want %.8x.. (%d bytes)", b, len(b), want, len(want))
	}
	if e := bloom.Check(b); e != api.ErrForm {
		t.Errorf("Check of a filter of 65537 hashes = %d", int(e))
	}
	if bloom.Many(b) != 0 || bloom.Has(b, l[0]) {
		t.Errorf("a filter of 65537 hashes: Many = %d, Has = %t", bloom.Many(b), bloom.Has(b, l[0]))
	}
	twice := slices.Concat(l[:65536], l[:65536]) // as many as may be, and each twice
	expectMake(t, twice, 0, 1, makePlainly(l[:65536], 0, 1))
}
