package change_test

import (
	"slices"
	"strings"
	"testing"

	"stemma/api"
	"stemma/change"
)

// alike tells whether changes have the same fields, without asking the package.
func alike(a, b api.Change) bool {
	return a.Author == b.Author && a.Seq == b.Seq && a.Start == b.Start && a.Note == b.Note && slices.Equal(a.Deps, b.Deps) && slices.Equal(a.Ops, b.Ops)
}

func isZero(c api.Change) bool { return alike(c, api.Change{}) }

func expectGet(t *testing.T, b string, want api.Change) {
	t.Helper()
	if c, e := change.Get([]byte(b)); e != api.OK || !alike(c, want) {
		t.Errorf("Get(%.80x) = %.200v, %d; want %.200v", b, c, int(e), want)
	}
}

func expectForm(t *testing.T, what, b string) {
	t.Helper()
	if c, e := change.Get([]byte(b)); e != api.ErrForm || !isZero(c) {
		t.Errorf("%s: Get(%.80x) = %.200v, %d; want %d", what, b, c, int(e), int(api.ErrForm))
	}
}

// P8.3
func TestGet(t *testing.T) {
	for _, s := range samples() {
		expectGet(t, s.laid(), s.change)
	}
	expectForm(t, "nothing", "")
	if c, e := change.Get(nil); e != api.ErrForm || !isZero(c) {
		t.Errorf("Get(nil) = %v, %d", c, int(e))
	}
}

// P8.3: bytes that end too early, wherever, and bytes behind the end.
func TestGetCutAndTail(t *testing.T) {
	for _, s := range samples() {
		whole := s.laid()
		step := len(whole)/1500 + 1 // the longest of all would take long at each of its bytes
		for n := 0; n < len(whole); n += step {
			expectForm(t, "cut off", whole[:n])
		}
		expectForm(t, "cut off by one byte", whole[:len(whole)-1])
		for tail := range 256 {
			expectForm(t, "with a tail", whole+string([]byte{byte(tail)}))
		}
		expectForm(t, "twice", whole+whole)
	}
}

// P8.3: one part is another than Put lays, all others are as they were.
func TestGetOfWrongParts(t *testing.T) {
	good := []string{"\x01", "\x01a", "\x01", "\x01", "\x02" + digits(rising(2)), "\x01n", delA}
	expectGet(t, strings.Join(good, ""), api.Change{Author: "a", Seq: 1, Start: 1, Deps: rising(2), Note: "n", Ops: []api.Op{{Kind: api.OpDel, Name: "a"}}})
	greatest := strings.Repeat("\xff", 9) + "\x01"
	numbers := []string{"", "\x00", "\x80\x00", "\x81\x00", "\x81\x80\x80\x80\x80\x20", greatest, strings.Repeat("\x80", 9) + "\x01", strings.Repeat("\xff", 10), strings.Repeat("\xff", 8) + "\x7f"}
	long, back := strings.Repeat("x", 1025), digits([]api.Hash{{2}, {1}})
	for part, wrongs := range [][]string{
		{"", "\x00", "\x02", "\x03", "\x7f", "\x80", "\x81", "\x81\x00", "\xff", "\x01\x01", "a", greatest},
		{"", "\x00", "a", "\x01-", "\x01 ", "\x02a ", "\x02\xc3\xa4", "\x00a", "\x02a", "\x81\x00a", "\x21" + strings.Repeat("n", 33), greatest + "a"},
		numbers,
		numbers,
		{"", "\x00" + digits(rising(1)), "\x01" + digits(rising(2)), "\x03" + digits(rising(2)), "\x82\x00" + digits(rising(2)), "\x02" + back, "\x02" + digits(make([]api.Hash, 2)), "\x02" + digits(rising(2))[:63], "\x02",
			"\x11" + digits(rising(17)), "\x80\x02" + digits(rising(256)), greatest, greatest + digits(rising(2))},
		{"", "\x00n", "\x02n", "\x81\x00n", "\x81\x08" + long, "\x81\x08" + long[:1024], greatest + "n"},
		{"", "\x00", "\x00\x00\x00\x00", "\x00\x00\x00\x00\x00\x00", noOps + delA, delA + noOps, delA + delA, delA[1:], "\x01" + delA, "\x01\x01\x00" + delA[3:], "\x01\x01\x06" + delA[3:], "\x01\x81\x02\x02" + "\x01\x01a" + "\x01\x81\x02\x00" + "\x01\x81\x02\x00" + "\x01\x81\x02\x00"},
	} {
		for _, wrong := range wrongs {
			parts := slices.Clone(good)
			parts[part] = wrong
			expectForm(t, "a wrong part", strings.Join(parts, ""))
		}
	}
}

// P8.3: each part at its edge is read, and one above it is not.
func TestGetAtEdges(t *testing.T) {
	good := []string{"\x01", "\x01a", "\x01", "\x01", "\x00", "\x00", noOps}
	name, note := strings.Repeat("n", 32), strings.Repeat("x", 1024)
	for _, x := range []struct {
		part        int
		edge, above string
		set         func(c *api.Change)
	}{
		{1, "\x20" + name, "\x21" + name + "n", func(c *api.Change) { c.Author = name }},
		{2, twoTo40, "\x81\x80\x80\x80\x80\x20", func(c *api.Change) { c.Seq = 1 << 40 }},
		{3, twoTo40, "\x81\x80\x80\x80\x80\x20", func(c *api.Change) { c.Start = 1 << 40 }},
		{4, "\x10" + digits(rising(16)), "\x11" + digits(rising(17)), func(c *api.Change) { c.Deps = rising(16) }},
		{5, "\x80\x08" + note, "\x81\x08" + note + "x", func(c *api.Change) { c.Note = note }},
	} {
		want, parts := plain(), slices.Clone(good)
		x.set(&want)
		parts[x.part] = x.edge
		expectGet(t, strings.Join(parts, ""), want)
		parts[x.part] = x.above
		expectForm(t, "above the edge", strings.Join(parts, ""))
	}
}

// P8.3: what would be a change, were it not too long.
func TestGetTooLong(t *testing.T) {
	head := "\x01\x01a\x01\x01\x00\x00" + "\x01\x40\x01" + "\x01\x01k" + "\x01\x40\x00" + "\x01\x40\x00" + "\x01\x40\x00" + strings.Repeat("\x80\x08"+strings.Repeat("x", 1024), 63)
	expectGet(t, head+"\xea\x06"+strings.Repeat("y", 874), asLong())
	expectForm(t, "one byte more", head+"\xeb\x06"+strings.Repeat("y", 875))
	expectForm(t, "a text of as many as may be", head+"\x80\x08"+strings.Repeat("y", 1024))
	expectForm(t, "a great many bytes", strings.Repeat("\x01", 1<<22))
	expectForm(t, "a great many noughts behind a change", "\x01\x01a\x01\x01\x00\x00"+strings.Repeat("\x00", 1<<22))
}
