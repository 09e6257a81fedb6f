package leb_test

import (
	"bytes"
	"math"
	"strings"
	"testing"

	"stemma/leb"
)

// uints are numbers with their bytes, about each further group among them.
func uints() map[uint64]string {
	laid := map[uint64]string{
		0:              "\x00",
		1:              "\x01",
		127:            "\x7f",
		128:            "\x80\x01",
		300:            "\xac\x02",
		624485:         "\xe5\x8e\x26",
		math.MaxUint64: strings.Repeat("\xff", 9) + "\x01",
		1 << 63:        strings.Repeat("\x80", 9) + "\x01",
		1<<63 - 1:      strings.Repeat("\xff", 8) + "\x7f",
	}
	for groups := 1; groups <= 9; groups++ {
		bits := 7 * groups
		laid[1<<bits-1] = strings.Repeat("\xff", groups-1) + "\x7f"
		laid[1<<bits] = strings.Repeat("\x80", groups) + "\x01"
	}
	return laid
}

// ints are numbers with their bytes, about each further group among them, above 0 and below it.
func ints() map[int64]string {
	laid := map[int64]string{
		0:             "\x00",
		1:             "\x01",
		-1:            "\x7f",
		63:            "\x3f",
		64:            "\xc0\x00",
		-64:           "\x40",
		-65:           "\xbf\x7f",
		127:           "\xff\x00",
		128:           "\x80\x01",
		-127:          "\x81\x7f",
		-128:          "\x80\x7f",
		-129:          "\xff\x7e",
		-123456:       "\xc0\xbb\x78",
		math.MaxInt64: strings.Repeat("\xff", 9) + "\x00",
		math.MinInt64: strings.Repeat("\x80", 9) + "\x7f",
	}
	for groups := 1; groups <= 9; groups++ {
		ahead := groups - 1
		bits := 7*groups - 1
		laid[1<<bits-1] = strings.Repeat("\xff", ahead) + "\x3f"
		laid[1<<bits] = strings.Repeat("\x80", ahead) + "\xc0\x00"
		laid[-1<<bits] = strings.Repeat("\x80", ahead) + "\x40"
		laid[-1<<bits-1] = strings.Repeat("\xff", ahead) + "\xbf\x7f"
	}
	return laid
}

// texts are texts with their bytes.
func texts() map[string]string {
	return map[string]string{
		"":                         "\x00",
		"ab":                       "\x02ab",
		"\x00\x80\xff":             "\x03\x00\x80\xff",
		"ä":                        "\x02\xc3\xa4",
		strings.Repeat("x", 127):   "\x7f" + strings.Repeat("x", 127),
		strings.Repeat("y", 128):   "\x80\x01" + strings.Repeat("y", 128),
		strings.Repeat("z", 16384): "\x80\x80\x01" + strings.Repeat("z", 16384),
	}
}

// spread calls f with numbers of each length of bits, the same ones at every run.
func spread(f func(n uint64)) {
	n := uint64(1)
	for range 2000 {
		n = n*6364136223846793005 + 1442695040888963407
		for shift := 0; shift < 64; shift += 5 {
			f(n >> shift)
		}
	}
}

// P2.1
func TestUintLays(t *testing.T) {
	for n, want := range uints() {
		if got := leb.Uint(n); string(got) != want {
			t.Errorf("Uint(%d) = %x, want %x", n, got, want)
		}
	}
}

// P2.1
func TestIntLays(t *testing.T) {
	for n, want := range ints() {
		if got := leb.Int(n); string(got) != want {
			t.Errorf("Int(%d) = %x, want %x", n, got, want)
		}
	}
}

// P2.1
func TestTextLays(t *testing.T) {
	for s, want := range texts() {
		if got := leb.Text(s); string(got) != want {
			t.Errorf("Text of %d bytes = %.8x.., want %.8x..", len(s), got, want)
		}
	}
}

// Rule 3: what one call answers, with its spare room, is no other call's.
func TestLaidIsNewMemory(t *testing.T) {
	for what, lay := range map[string]func() []byte{
		"Uint": func() []byte { return leb.Uint(300) },
		"Int":  func() []byte { return leb.Int(-300) },
		"Text": func() []byte { return leb.Text("some") },
	} {
		first, second := lay(), lay()
		room := first[:cap(first)]
		for i := range room {
			room[i] = 0xee
		}
		if !bytes.Equal(second, lay()) {
			t.Errorf("%s: writing to one answer changed another one", what)
		}
	}
}
