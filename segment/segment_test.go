package segment_test

import (
	"strings"
	"testing"

	"stemma/api"
	"stemma/frame"
	"stemma/segment"
	"stemma/sha"
)

// chunksOf tells texts as chunks.
func chunksOf(l ...string) [][]byte {
	var chunks [][]byte
	for _, s := range l {
		chunks = append(chunks, []byte(s))
	}
	return chunks
}

// textsOf tells chunks as texts.
func textsOf(chunks [][]byte) []string {
	var l []string
	for _, chunk := range chunks {
		l = append(l, string(chunk))
	}
	return l
}

// same tells whether chunks are these texts.
func same(chunks [][]byte, l []string) bool {
	if len(chunks) != len(l) {
		return false
	}
	for i := range l {
		if string(chunks[i]) != l[i] {
			return false
		}
	}
	return true
}

// put tells the segment of chunks that may be.
func put(t *testing.T, l ...string) string {
	t.Helper()
	b, e := segment.Put(chunksOf(l...))
	if e != api.OK {
		t.Fatalf("Put of %d chunks is refused: %d", len(l), int(e))
	}
	return string(b)
}

// framed tells a frame by hand: of any kind, with any bytes for how long it is, and the sum of all these.
func framed(kind byte, length, body string) string {
	b := string([]byte{kind}) + length + body
	crc := frame.Crc([]byte(b))
	return b + string([]byte{byte(crc), byte(crc >> 8), byte(crc >> 16), byte(crc >> 24)})
}

// The frames of two chunks, their sums worked out by another program.
const (
	laidNothing = "\x01\x00\xbe\x23\xc2\x58"
	laidA       = "\x01\x01a\xaa\xd3\x2d\xdd"
)

// P18.2
func TestPutLays(t *testing.T) {
	for _, x := range []struct {
		chunks []string
		b      string
	}{
		{nil, ""},
		{[]string{""}, laidNothing},
		{[]string{"a"}, laidA},
		{[]string{"", ""}, laidNothing + laidNothing},
		{[]string{"a", ""}, laidA + laidNothing},
		{[]string{"", "a"}, laidNothing + laidA},
		{[]string{"a", "a", "", "a"}, laidA + laidA + laidNothing + laidA},
		{[]string{"a", strings.Repeat("b", 127)}, laidA + framed(1, "\x7f", strings.Repeat("b", 127))},
		{[]string{strings.Repeat("b", 128), "a"}, framed(1, "\x80\x01", strings.Repeat("b", 128)) + laidA},
		{[]string{strings.Repeat("c", api.MaxFrame), "a"}, framed(1, "\x80\x80\x40", strings.Repeat("c", api.MaxFrame)) + laidA},
	} {
		got, e := segment.Put(chunksOf(x.chunks...))
		if string(got) != x.b || e != api.OK {
			t.Errorf("Put of %d chunks = %.40x.., %d; want %.40x..", len(x.chunks), got, int(e), x.b)
		}
		back, e := segment.Get([]byte(x.b))
		if !same(back, x.chunks) || e != api.OK {
			t.Errorf("Get(%.40x..) = %d chunks, %d; want %d", x.b, len(back), int(e), len(x.chunks))
		}
	}
}

// P18.2: nothing is nothing, told as nil or as an empty list; a chunk that is nil is the empty one.
func TestPutNothing(t *testing.T) {
	for _, none := range [][][]byte{nil, {}} {
		if b, e := segment.Put(none); len(b) != 0 || e != api.OK {
			t.Errorf("Put(none) = %x, %d", b, int(e))
		}
	}
	if b, e := segment.Put([][]byte{nil, {}}); string(b) != laidNothing+laidNothing || e != api.OK {
		t.Errorf("Put of two empty chunks = %x, %d", b, int(e))
	}
	for _, none := range [][]byte{nil, {}} {
		if l, e := segment.Get(none); len(l) != 0 || e != api.OK {
			t.Errorf("Get(nothing) = %x, %d", l, int(e))
		}
	}
}

// P18.2: one chunk that is too long, wherever it stands.
func TestPutLong(t *testing.T) {
	most, more := strings.Repeat("x", api.MaxFrame), strings.Repeat("x", api.MaxFrame+1)
	for _, l := range [][]string{
		{more}, {more, "a"}, {"a", more}, {"a", more, "b"}, {"", "", more}, {most, more}, {more, most}, {more, more}, {more + most},
	} {
		if b, e := segment.Put(chunksOf(l...)); e != api.ErrLong || len(b) != 0 {
			t.Errorf("Put with a chunk too long = %d bytes, %d", len(b), int(e))
		}
	}
	b, e := segment.Put(chunksOf(most, "a", most))
	if l, f := segment.Get(b); e != api.OK || f != api.OK || !same(l, []string{most, "a", most}) {
		t.Errorf("chunks of the greatest length: Put tells %d, Get %d and %d chunks", int(e), int(f), len(l))
	}
}

// faults are bytes that Put lays for no chunks.
func faults() []string {
	whole := laidA + laidNothing
	l := []string{
		"\x00", "\x01", "\x02", "\xff", "x", "\x01\x00", "\x01\x80\x00", "\x01\x80",
		"\x00" + whole, whole + "\x00", whole + "\x01", whole + "x", laidA + "\x00" + laidNothing,
		framed(2, "\x00", ""), framed(0, "\x00", ""), framed(255, "\x01", "a"), framed(129, "\x01", "a"), // another kind
		laidA + framed(2, "\x01", "a"), framed(2, "\x01", "a") + laidA, laidA + framed(3, "\x00", "") + laidA,
		framed(1, "\x80\x00", ""), framed(1, "\x81\x00", "a"), laidA + framed(1, "\x81\x80\x00", "a"), // more bytes than need be
		framed(1, "\x81\x80\x40", strings.Repeat("x", api.MaxFrame+1)), // too long
		framed(1, "\x80\x80\x80\x80\x80\x80\x80\x80\x80\x01", "a"),     // the greatest bit of 64
		framed(1, "\xff\xff\xff\xff\xff\xff\xff\xff\xff\x7f", "a"),     // more than 64 bits
		framed(1, "\xff\xff\xff\xff\xff\xff\xff\xff\xff\x01", "a"),
		framed(1, "\x02", "a"), framed(1, "\x00", "a"), // another length than it has
	}
	for cut := 1; cut < len(whole); cut++ {
		if cut != len(laidA) {
			l = append(l, whole[:cut], whole[cut:])
		}
	}
	return l
}

// P18.3
func TestFaults(t *testing.T) {
	for _, b := range faults() {
		if l, e := segment.Get([]byte(b)); e != api.ErrForm || len(l) != 0 {
			t.Errorf("Get(%.20x.. of %d bytes) = %d chunks, %d", b, len(b), len(l), int(e))
		}
		for _, s := range []string{"", "a"} {
			if got, ok := segment.Find([]byte(b), sha.Sum([]byte(s))); ok || len(got) != 0 {
				t.Errorf("Find(%.20x.. of %d bytes, %q's) = %x, %v", b, len(b), s, got, ok)
			}
		}
	}
}

// P18.3: each byte of a segment changed in each way.
func TestChangedBytes(t *testing.T) {
	whole := laidA + put(t, "bc") + laidNothing + put(t, strings.Repeat("d", 130))
	for i := range len(whole) {
		b := []byte(whole)
		for by := 1; by < 256; by++ {
			b[i] = whole[i] ^ byte(by)
			l, e := segment.Get(b)
			_, ok := segment.Find(b, sha.Sum([]byte("a")))
			if e != api.ErrForm || len(l) != 0 || ok {
				t.Fatalf("with the byte %d turned by %d: Get = %x, %d; Find tells %v", i, by, l, int(e), ok)
			}
		}
	}
}

// P18.3
func TestFind(t *testing.T) {
	chunks := []string{"one", "", "two", "one", strings.Repeat("e", 300), "\x00", "two"}
	b := []byte(put(t, chunks...))
	for _, s := range chunks {
		if got, ok := segment.Find(b, sha.Sum([]byte(s))); !ok || string(got) != s {
			t.Errorf("Find(%.8q's) = %.8q, %v", s, got, ok)
		}
	}
	for _, s := range []string{"three", "on", "onetwo", "a", "\x01\x03one", "\x00\x00", string(b)} {
		if got, ok := segment.Find(b, sha.Sum([]byte(s))); ok || len(got) != 0 {
			t.Errorf("Find(%.8q's) = %.8q, %v", s, got, ok)
		}
	}
	near := sha.Sum([]byte("two"))
	near[31] ^= 1
	for _, h := range []api.Hash{{}, near, {31: 1}} {
		if got, ok := segment.Find(b, h); ok || len(got) != 0 {
			t.Errorf("Find(%x) = %.8q, %v", h, got, ok)
		}
	}
	for _, h := range []api.Hash{{}, sha.Sum(nil)} {
		if got, ok := segment.Find(nil, h); ok || len(got) != 0 {
			t.Errorf("Find(nothing, %x) = %.8q, %v", h, got, ok)
		}
	}
}

// P18.3: a chunk is not found where a fault stands, be it ahead of it or behind.
func TestFindBesideFaults(t *testing.T) {
	one, two := put(t, "one"), put(t, "two")
	for _, b := range []string{
		one + "\x01", one + "x", one + two[:len(two)-1], one + framed(2, "\x03", "two"), one + one + "\x00",
		"\x00" + one, one[1:] + one, framed(2, "\x03", "one"), framed(2, "\x00", "") + one, one + "\x01" + one,
	} {
		if got, ok := segment.Find([]byte(b), sha.Sum([]byte("one"))); ok || len(got) != 0 {
			t.Errorf("Find(%x) = %q, %v", b, got, ok)
		}
	}
}

// P18.1, P18.2, P18.3: the chapter's examples.
func TestExamples(t *testing.T) {
	if segment.Name(7) != "seg-000007" || segment.Number("seg-000007") != 7 || segment.Number("seg-7") != 0 || segment.Name(0) != "" {
		t.Error("example 1")
	}
	b, e := segment.Put(nil)
	l, f := segment.Get(nil)
	if len(b) != 0 || e != api.OK || len(l) != 0 || f != api.OK {
		t.Error("example 2: nothing")
	}
	if l, e := segment.Get([]byte{1}); len(l) != 0 || e != api.ErrForm {
		t.Error("example 2: a byte 1")
	}
}
