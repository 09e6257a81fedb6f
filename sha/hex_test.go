package sha_test

import (
	"strings"
	"testing"

	"stemma/api"
	"stemma/sha"
)

// P1.3
func TestHex(t *testing.T) {
	if s := sha.Hex(api.Hash{}); s != strings.Repeat("0", 64) {
		t.Error(s)
	}
	h := api.Hash{0x01, 0x23, 0x45, 0x67, 0x89, 0xab, 0xcd, 0xef, 0xfe, 31: 0x0a}
	if s := sha.Hex(h); s != "0123456789abcdeffe"+strings.Repeat("0", 44)+"0a" {
		t.Error(s)
	}
}

// P1.3, P1.5: every byte, at every place.
func TestParseOfHexIsTheHash(t *testing.T) {
	for b := range 256 {
		for i := range 32 {
			var h api.Hash
			h[i] = byte(b)
			got, e := sha.Parse(sha.Hex(h))
			if e != api.OK || got != h {
				t.Fatalf("byte %d at %d: %x, %v", b, i, got, e)
			}
		}
	}
	for n := range 100 {
		h := sha.Sum(sample(n))
		got, e := sha.Parse(sha.Hex(h))
		if e != api.OK || got != h {
			t.Errorf("%x: %x, %v", h, got, e)
		}
	}
}

// P1.3
func TestParseReadsTheHigherDigitFirst(t *testing.T) {
	h, e := sha.Parse("1f" + strings.Repeat("0", 60) + "a2")
	if e != api.OK || h != (api.Hash{0: 0x1f, 31: 0xa2}) {
		t.Errorf("%x, %v", h, e)
	}
}

func expectRefusal(t *testing.T, s string, want api.Errno) {
	t.Helper()
	h, e := sha.Parse(s)
	if e != want {
		t.Errorf("Parse(%q): %v, expected %v", s, e, want)
	}
	if h != (api.Hash{}) {
		t.Errorf("Parse(%q): %x beside an error", s, h)
	}
}

// P1.3: the length is asked ahead of the digits (rule 2).
func TestParseOfAnotherLength(t *testing.T) {
	for n := range 200 {
		if n == 64 {
			continue
		}
		want := api.ErrCut
		if n > 64 {
			want = api.ErrTail
		}
		for _, c := range []string{"a", "0", "A", "x", "\x00", "\xff"} {
			expectRefusal(t, strings.Repeat(c, n), want)
		}
	}
}

// P1.3: every byte that is no digit, at every place.
func TestParseOfOtherBytes(t *testing.T) {
	for c := range 256 {
		if strings.IndexByte("0123456789abcdef", byte(c)) >= 0 {
			continue
		}
		for i := range 64 {
			s := []byte(strings.Repeat("7", 64))
			s[i] = byte(c)
			expectRefusal(t, string(s), api.ErrForm)
		}
	}
	expectRefusal(t, strings.Repeat("A", 64), api.ErrForm)
	expectRefusal(t, "0x"+strings.Repeat("a", 62), api.ErrForm)
	expectRefusal(t, strings.Repeat("é", 32), api.ErrForm)
}
