package frame_test

import (
	"bytes"
	"math"
	"strings"
	"testing"

	"stemma/api"
	"stemma/frame"
)

// sample tells n bytes that repeat only after 256 of them.
func sample(n int) string {
	b := make([]byte, n)
	for i := range b {
		b[i] = byte(7*i + 3)
	}
	return string(b)
}

// frames are frames with their bytes, worked out by another program.
func frames() []struct {
	kind byte
	body string
	b    string
} {
	return []struct {
		kind byte
		body string
		b    string
	}{
		{1, "", "\x01\x00\xbe\x23\xc2\x58"},
		{1, "a", "\x01\x01a\xaa\xd3\x2d\xdd"},
		{7, "abc", "\x07\x03abc\x33\x1c\xd2\xac"},
		{128, "\x00", "\x80\x01\x00\xd3\xf3\x6f\x07"},
		{255, "", "\xff\x00\x8d\xef\xfd\xd2"},
		{255, "\x00\xff", "\xff\x02\x00\xff\x0e\xe2\xc7\xd1"},
		{2, sample(127), "\x02\x7f" + sample(127) + "\xe5\x42\xd0\xb1"},
		{2, sample(128), "\x02\x80\x01" + sample(128) + "\xae\x95\x42\x8b"},
		{3, sample(16383), "\x03\xff\x7f" + sample(16383) + "\x27\xa1\x3f\x72"},
		{3, sample(16384), "\x03\x80\x80\x01" + sample(16384) + "\x40\x95\x87\x20"},
		{255, sample(api.MaxFrame), "\xff\x80\x80\x40" + sample(api.MaxFrame) + "\x1e\x27\xc4\x2f"},
	}
}

// seal tells the frame of a kind and a body that may be.
func seal(t *testing.T, kind byte, body string) string {
	t.Helper()
	b, e := frame.Seal(kind, []byte(body))
	if e != api.OK {
		t.Fatalf("Seal(%d, %.8x..) is refused: %d", kind, body, int(e))
	}
	return string(b)
}

// The sums were worked out by another program.
func TestCrc(t *testing.T) {
	for s, want := range map[string]uint32{
		"":                         0,
		"a":                        0xe8b7be43,
		"abc":                      0x352441c2,
		"123456789":                0xcbf43926,
		"\x00":                     0xd202ef8d,
		"\x01":                     0xa505df1b,
		"\x80":                     0x3fba6cad,
		"\xff":                     0xff000000,
		"\x00\x00\x00\x00":         0x2144df1c,
		"\xff\xff\xff\xff":         math.MaxUint32,
		strings.Repeat("\x00", 32): 0x190a55ad,
		strings.Repeat("\xff", 32): 0xff6cab0b,
		sample(2):                  0x8a21a822,
		sample(3):                  0x6d58af33,
		sample(5):                  0xfcc83142,
		sample(7):                  0x54491cdb,
		sample(8):                  0xe2e35978,
		sample(9):                  0x3d351cfe,
		sample(257):                0x1476b46d,
		sample(4096):               0x5e4e1995,
		sample(api.MaxFrame):       0x4a24d8fa,
	} {
		if got := frame.Crc([]byte(s)); got != want {
			t.Errorf("Crc(%.8x..) of %d bytes = %x, want %x", s, len(s), got, want)
		}
	}
	if got := frame.Crc(nil); got != 0 {
		t.Errorf("Crc(nil) = %x", got)
	}
}

// P4.1
func TestSealLays(t *testing.T) {
	for _, x := range frames() {
		got, e := frame.Seal(x.kind, []byte(x.body))
		if string(got) != x.b || e != api.OK {
			t.Errorf("Seal(%d, %.8x..) of %d bytes = %.12x.., %d; want %.12x..", x.kind, x.body, len(x.body), got, int(e), x.b)
		}
	}
	if got, e := frame.Seal(1, nil); string(got) != "\x01\x00\xbe\x23\xc2\x58" || e != api.OK {
		t.Errorf("Seal(1, nil) = %x, %d", got, int(e))
	}
}

// P4.1
func TestSealErrors(t *testing.T) {
	for _, x := range []struct {
		kind   byte
		length int
		e      api.Errno
	}{
		{0, 0, api.ErrArg},
		{0, 1, api.ErrArg},
		{0, api.MaxFrame, api.ErrArg},
		{0, api.MaxFrame + 1, api.ErrArg}, // both apply: the one that is named first
		{1, api.MaxFrame + 1, api.ErrLong},
		{255, api.MaxFrame + 1, api.ErrLong},
		{1, 2 * api.MaxFrame, api.ErrLong},
	} {
		if b, e := frame.Seal(x.kind, make([]byte, x.length)); e != x.e || len(b) != 0 {
			t.Errorf("Seal(%d, %d bytes) = %d bytes, %d; want %d", x.kind, x.length, len(b), int(e), int(x.e))
		}
	}
}

// P4.1: each kind but 0 may be.
func TestSealAllKinds(t *testing.T) {
	for kind := 1; kind <= 255; kind++ {
		f, used, e := frame.Open([]byte(seal(t, byte(kind), "body")))
		if int(f.Kind) != kind || string(f.Body) != "body" || used != 10 || e != api.OK {
			t.Errorf("a frame of the kind %d is opened as %v, %d, %d", kind, f, used, int(e))
		}
	}
}

// Rule 3: what is handed in is not changed, and what one call answers, with its spare room, is no other call's.
func TestSealIsNewMemory(t *testing.T) {
	for _, length := range []int{0, 1, 13, 300} {
		room := []byte(sample(length + 64))
		before := bytes.Clone(room)
		body := room[:length] // there is room for the sum behind it, and it is not to be used
		first, _ := frame.Seal(9, body)
		second, _ := frame.Seal(9, body)
		spoil(first)
		third, _ := frame.Seal(9, body)
		if !bytes.Equal(room, before) || !bytes.Equal(second, third) {
			t.Errorf("of %d bytes: sealing changed the body, or one answer another one", length)
		}
	}
}

// spoil writes to all bytes of b, and to its spare room.
func spoil(b []byte) {
	b = b[:cap(b)]
	for i := range b {
		b[i] = 0xee
	}
}
