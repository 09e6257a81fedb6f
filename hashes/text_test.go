package hashes_test

import (
	"strings"
	"testing"

	"stemma/api"
	"stemma/hashes"
)

// P6.4
func TestText(t *testing.T) {
	var counted api.Hash
	for i := range counted {
		counted[i] = byte(i*8 + i)
	}
	const countedDigits = "0009121b242d363f48515a636c757e879099a2abb4bdc6cfd8e1eaf3fc050e17"
	noughts := strings.Repeat("0", 62)
	for _, x := range []struct {
		l    []api.Hash
		want string
	}{
		{nil, "-"},
		{[]api.Hash{}, "-"},
		{short(0), "00" + noughts},
		{short(0xa1), "a1" + noughts},
		{[]api.Hash{counted}, countedDigits},
		{[]api.Hash{highest()}, strings.Repeat("f", 64)},
		{short(1, 2), "01" + noughts + ",02" + noughts},
		{short(2, 1, 2), "02" + noughts + ",01" + noughts + ",02" + noughts}, // as they stand
		{[]api.Hash{counted, {0xff}, counted}, countedDigits + ",ff" + noughts + "," + countedDigits},
	} {
		if got := hashes.Text(x.l); got != x.want {
			t.Errorf("Text%s = %q, want %q", tell(x.l), got, x.want)
		}
	}
	if got := hashes.Text(make([]api.Hash, 100)); got != strings.Repeat("00"+noughts+",", 99)+"00"+noughts {
		t.Errorf("Text of 100 hashes = %q", got)
	}
}

// P6.5
func TestName(t *testing.T) {
	for s, want := range map[string]bool{
		"a.b": true, "-": false, "a b": false, "": false,
		"--": true, "-a": true, "a-": true, "---": true, ".": true, "..": true, "_": true, "a": true, "Z": true, "0": true,
		"main": true, "Main_2.x-y": true, "-.": true,
		"a\x00": false, "\x00a": false, "a/b": false, "a,b": false, "a\n": false, "\n": false, " a": false, "a ": false,
		"ä": false, "aä": false, "\xffa": false, "a\x80": false,
		strings.Repeat("a", api.MaxName):         true,
		strings.Repeat("a", api.MaxName+1):       false,
		strings.Repeat("-", api.MaxName):         true,
		strings.Repeat("-", api.MaxName+1):       false,
		strings.Repeat("a", api.MaxName-1) + "!": false,
		strings.Repeat("a", api.MaxName-1) + "_": true,
		strings.Repeat("ä", api.MaxName/2):       false,
		strings.Repeat("a", 100*api.MaxName):     false,
	} {
		if got := hashes.Name(s); got != want {
			t.Errorf("Name(%q) = %t", s, got)
		}
	}
}

// P6.5: every byte, alone, ahead, between and behind.
func TestNameEveryByte(t *testing.T) {
	const may = "abcdefghijklmnopqrstuvwxyzABCDEFGHIJKLMNOPQRSTUVWXYZ0123456789._-"
	for b := range 256 {
		c := string([]byte{byte(b)})
		want := strings.Contains(may, c)
		for _, s := range []string{c + "a", "a" + c, "a" + c + "a", c + c} {
			if got := hashes.Name(s); got != want {
				t.Errorf("Name(%q) = %t", s, got)
			}
		}
		if got := hashes.Name(c); got != (want && c != "-") {
			t.Errorf("Name(%q) = %t", c, got)
		}
	}
}
