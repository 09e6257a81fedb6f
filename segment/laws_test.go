package segment_test

import (
	"slices"
	"strings"
	"testing"

	"stemma/api"
	"stemma/frame"
	"stemma/segment"
	"stemma/sha"
)

// random is a row of numbers that looks like one without a rule, and is the same at each run.
type random uint64

// below tells the row's next number, from 0 to n - 1.
func (r *random) below(n int) int {
	*r = *r*6364136223846793005 + 1442695040888963407
	return int(uint64(*r) >> 33 % uint64(n))
}

// chunks tells up to n chunks, short ones of few letters more often than others.
func (r *random) chunks(n int) []string {
	var l []string
	for range r.below(n + 1) {
		length := r.below(4)
		if r.below(4) == 0 {
			length = r.below(300)
		}
		var s strings.Builder
		for range length {
			s.WriteByte("ab\x00\x01"[r.below(4)])
		}
		l = append(l, s.String())
	}
	return l
}

// plainGet tells what Get is to answer: frames that layer 4 tells up to the end, all of the kind 1.
func plainGet(b []byte) ([]string, bool) {
	frames, used, e := frame.Scan(b)
	if e != api.OK || used != len(b) {
		return nil, false
	}
	var l []string
	for _, f := range frames {
		if f.Kind != 1 {
			return nil, false
		}
		l = append(l, string(f.Body))
	}
	return l, true
}

// asPlain asks all of Get and Find at bytes.
func asPlain(t *testing.T, b []byte) {
	t.Helper()
	want, may := plainGet(b)
	l, e := segment.Get(b)
	if may != (e == api.OK) || !may && e != api.ErrForm || !same(l, want) {
		t.Fatalf("Get(%.60x) = %d chunks, %d; want %d", b, len(l), int(e), len(want))
	}
	for _, s := range append([]string{"", "a", "b", "ab"}, want...) {
		got, ok := segment.Find(b, sha.Sum([]byte(s)))
		if ok != slices.Contains(want, s) || ok && string(got) != s || !ok && len(got) != 0 {
			t.Fatalf("Find(%.60x, %.8q's) = %.8q, %v", b, s, got, ok)
		}
	}
}

// P18.4
func TestGetOfPut(t *testing.T) {
	r := random(1)
	for range 400 {
		one, two := r.chunks(6), r.chunks(6)
		first, second := put(t, one...), put(t, two...)
		both := append(slices.Clone(one), two...)
		l, e := segment.Get([]byte(first + second))
		if e != api.OK || !same(l, both) || first+second != put(t, both...) {
			t.Fatalf("%q and %q: Get of both = %d chunks, %d", one, two, len(l), int(e))
		}
		if l, e := segment.Get([]byte(first)); e != api.OK || !same(l, one) || put(t, textsOf(l)...) != first {
			t.Fatalf("%q: Get of Put = %q, %d", one, textsOf(l), int(e))
		}
		asPlain(t, []byte(first+second))
	}
}

// P18.3, P18.4: bytes near to a segment, and each cut of one.
func TestNearSegments(t *testing.T) {
	r := random(2)
	for range 200 {
		b := []byte(put(t, r.chunks(4)...))
		for cut := range min(len(b), 60) {
			asPlain(t, b[:cut])
			asPlain(t, b[cut:])
		}
		for range 20 {
			near := slices.Clone(b)
			for range 1 + r.below(2) {
				at := r.below(len(near) + 1)
				switch r.below(3) {
				case 0:
					near = slices.Insert(near, at, byte(r.below(3)))
				case 1:
					near = slices.Delete(near, at, min(at+1+r.below(7), len(near)))
				default:
					near = slices.Insert(near, at, []byte(framed(byte(r.below(3)), "\x01", "a"))...)
				}
			}
			asPlain(t, near)
		}
	}
}

// P18.3: all bytes of up to two, and each row of these few bytes up to seven.
func TestShortBytes(t *testing.T) {
	for a := range 256 {
		asPlain(t, []byte{byte(a)})
		for b := range 256 {
			asPlain(t, []byte{byte(a), byte(b)})
		}
	}
	few := "\x00\x01\xbe\x23\xc2\x58"
	row := make([]byte, 7)
	for i := range 6 * 6 * 6 * 6 * 6 * 6 * 6 {
		for at := range row {
			row[at] = few[i%6]
			i /= 6
		}
		l, e := segment.Get(row[:6])
		if want := string(row[:6]) == laidNothing; want != (e == api.OK) || want && len(l) != 1 {
			t.Fatalf("Get(%x) = %x, %d", row[:6], l, int(e))
		}
		if l, e := segment.Get(row); e != api.ErrForm || len(l) != 0 { // a chunk of one byte has another sum
			t.Fatalf("Get(%x) = %x, %d", row, l, int(e))
		}
	}
}
