package change_test

import (
	"strings"
	"testing"

	"stemma/api"
	"stemma/change"
)

// sample is a change and the bytes that the chapter asks for, part by part.
type sample struct {
	change api.Change
	parts  []string // the mark, Author, Seq, Start, Deps, Note, Ops
}

func (s sample) laid() string { return strings.Join(s.parts, "") }

// digits tells hashes one behind the other.
func digits(l []api.Hash) string {
	var b []byte
	for _, h := range l {
		b = append(b, h[:]...)
	}
	return string(b)
}

// Operations, and what chapter 7 lays for them.
const (
	noOps   = "\x00\x00\x00\x00\x00"
	delA    = "\x01\x01\x02\x01\x01a\x01\x01\x00\x01\x01\x00\x01\x01\x00"
	insDel  = "\x02\x01\x04\x01\x02" + "\x02\x01t\x01k" + "\x02\x01\x00\x01\x01" + "\x02\x01\x03\x01\x7d" + "\x01\x02\x00" + "\x03abc"
	twoTo40 = "\x80\x80\x80\x80\x80\x20"
)

// samples are ordinary changes, and those at the edges.
func samples() []sample {
	name, note := strings.Repeat("n", 32), strings.Repeat("x", 1024)
	high := api.Hash{}
	for i := range high {
		high[i] = 0xff
	}
	puts := "\x01\x40\x01" + "\x01\x01k" + "\x01\x40\x00" + "\x01\x40\x00" + "\x01\x40\x00"
	return []sample{
		{plain(), []string{"\x01", "\x01a", "\x01", "\x01", "\x00", "\x00", noOps}},
		{api.Change{Author: "a", Seq: 1, Start: 1, Deps: []api.Hash{}, Ops: []api.Op{}}, []string{"\x01", "\x01a", "\x01", "\x01", "\x00", "\x00", noOps}},
		{api.Change{Author: "ab", Seq: 2, Start: 3, Note: "hi", Ops: []api.Op{{Kind: api.OpDel, Name: "a"}}}, []string{"\x01", "\x02ab", "\x02", "\x03", "\x00", "\x02hi", delA}},
		{api.Change{Author: "B.9", Seq: 127, Start: 128, Deps: rising(2), Note: "\x00\xff", Ops: []api.Op{{Kind: api.OpIns, Name: "t", Pos: 3, Text: "abc"}, {Kind: api.OpDel, Name: "k"}}},
			[]string{"\x01", "\x03B.9", "\x7f", "\x80\x01", "\x02" + digits(rising(2)), "\x02\x00\xff", insDel}},
		{api.Change{Author: "a", Seq: 300, Start: 1, Deps: []api.Hash{high}}, []string{"\x01", "\x01a", "\xac\x02", "\x01", "\x01" + digits([]api.Hash{high}), "\x00", noOps}},
		{api.Change{Author: "a", Seq: 1, Start: 300, Deps: []api.Hash{{}, high}}, []string{"\x01", "\x01a", "\x01", "\xac\x02", "\x02" + digits([]api.Hash{{}, high}), "\x00", noOps}},
		// each field as great as it may be
		{api.Change{Author: name, Seq: 1 << 40, Start: 1, Deps: rising(16), Note: note}, []string{"\x01", "\x20" + name, twoTo40, "\x01", "\x10" + digits(rising(16)), "\x80\x08" + note, noOps}},
		{api.Change{Author: name, Seq: 1, Start: 1 << 40, Ops: times(256, api.Op{Kind: api.OpDel, Name: "a"})},
			[]string{"\x01", "\x20" + name, "\x01", twoTo40, "\x00", "\x00", "\x01\x80\x02\x02" + "\x01\x01a" + "\x01\x80\x02\x00" + "\x01\x80\x02\x00" + "\x01\x80\x02\x00"}},
		{asLong(), []string{"\x01", "\x01a", "\x01", "\x01", "\x00", "\x00", puts + strings.Repeat("\x80\x08"+note, 63) + "\xea\x06" + strings.Repeat("y", 874)}},
	}
}

// P8.2: the bytes, the chapter's example first.
func TestPut(t *testing.T) {
	if b, e := change.Put(plain()); string(b) != "\x01\x01a\x01\x01\x00\x00\x00\x00\x00\x00\x00" || e != api.OK {
		t.Errorf("Put(Author a, Seq 1, Start 1) = %x, %d", b, int(e))
	}
	for _, s := range samples() {
		if b, e := change.Put(s.change); string(b) != s.laid() || e != api.OK {
			t.Errorf("Put(%.200v) = %.80x, %d; want %.80x", s.change, b, int(e), s.laid())
		}
		expectMay(t, "a sample", s.change)
	}
}
