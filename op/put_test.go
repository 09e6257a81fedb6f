package op_test

import (
	"strconv"
	"strings"
	"testing"

	"stemma/api"
	"stemma/op"
)

// sample is operations and the bytes that the chapter asks for, part by part.
type sample struct {
	ops   []api.Op
	parts []string // the kinds, the names, the names' numbers, the places, the Bys, the texts
}

func (s sample) laid() string { return strings.Join(s.parts, "") }

// times tells n operations like o.
func times(n int, o api.Op) []api.Op {
	l := make([]api.Op, n)
	for i := range l {
		l[i] = o
	}
	return l
}

// unlikeNames tells as many deletes as a change may have, each of another name, and the part that the names are laid as.
func unlikeNames() ([]api.Op, string) {
	l := times(256, api.Op{Kind: api.OpDel})
	names := "\x80\x02"
	for i := range l {
		l[i].Name = "n" + strconv.Itoa(100+i)
		names += "\x04" + l[i].Name
	}
	return l, names
}

// numbersFrom0 tells the runs of the 256 numbers from 0 to 255.
func numbersFrom0() string {
	b := "\x80\x02"
	for n := range 256 {
		if n < 64 {
			b += "\x01" + string([]byte{byte(n)})
		} else {
			b += "\x01" + string([]byte{byte(n&0x7f | 0x80), byte(n >> 7)})
		}
	}
	return b
}

// samples are ordinary lists, and those at the edges.
func samples() []sample {
	long := strings.Repeat("x", 1024)
	name := strings.Repeat("n", 32)
	unlike, unlikeLaid := unlikeNames()
	return []sample{
		{nil, []string{"\x00", "\x00", "\x00", "\x00", "\x00", ""}},
		{[]api.Op{{Kind: api.OpDel, Name: "a"}}, []string{"\x01\x01\x02", "\x01\x01a", "\x01\x01\x00", "\x01\x01\x00", "\x01\x01\x00", ""}},
		{[]api.Op{{Kind: api.OpPut, Name: "k", Text: "v"}}, []string{"\x01\x01\x01", "\x01\x01k", "\x01\x01\x00", "\x01\x01\x00", "\x01\x01\x00", "\x01v"}},
		{[]api.Op{{Kind: api.OpPut, Name: "k"}}, []string{"\x01\x01\x01", "\x01\x01k", "\x01\x01\x00", "\x01\x01\x00", "\x01\x01\x00", "\x00"}},
		{[]api.Op{{Kind: api.OpPut, Name: "k", Text: long}}, []string{"\x01\x01\x01", "\x01\x01k", "\x01\x01\x00", "\x01\x01\x00", "\x01\x01\x00", "\x80\x08" + long}},
		{[]api.Op{{Kind: api.OpAdd, Name: "c", By: 5}}, []string{"\x01\x01\x03", "\x01\x01c", "\x01\x01\x00", "\x01\x01\x00", "\x01\x01\x05", ""}},
		{[]api.Op{{Kind: api.OpAdd, Name: "c"}}, []string{"\x01\x01\x03", "\x01\x01c", "\x01\x01\x00", "\x01\x01\x00", "\x01\x01\x00", ""}},
		{[]api.Op{{Kind: api.OpAdd, Name: "c", By: 1 << 31}, {Kind: api.OpAdd, Name: "c", By: -1 << 31}},
			[]string{"\x01\x02\x03", "\x01\x01c", "\x01\x02\x00", "\x01\x02\x00", "\x02\x01\x80\x80\x80\x80\x08\x01\x80\x80\x80\x80\x78", ""}},
		{[]api.Op{{Kind: api.OpIns, Name: name, Pos: 1 << 40, Text: long}, {Kind: api.OpCut, Name: name, By: 1024}},
			[]string{"\x02\x01\x04\x01\x05", "\x01\x20" + name, "\x01\x02\x00", "\x02\x01\x80\x80\x80\x80\x80\x20\x01\x80\x80\x80\x80\x80\x60", "\x02\x01\x00\x01\x80\x08", "\x80\x08" + long}},
		{[]api.Op{{Kind: api.OpCut, Name: "t", Pos: 1 << 40, By: 1}}, []string{"\x01\x01\x05", "\x01\x01t", "\x01\x01\x00", "\x01\x01\x80\x80\x80\x80\x80\x20", "\x01\x01\x01", ""}},
		// what is typed character by character is short: the differences of the places are one run
		{[]api.Op{{Kind: api.OpIns, Name: "t", Pos: 0, Text: "a"}, {Kind: api.OpIns, Name: "t", Pos: 1, Text: "b"}, {Kind: api.OpIns, Name: "t", Pos: 2, Text: "\xc3"}},
			[]string{"\x01\x03\x04", "\x01\x01t", "\x01\x03\x00", "\x02\x01\x00\x02\x01", "\x01\x03\x00", "\x01a\x01b\x01\xc3"}},
		// all kinds, and texts of those that have one alone
		{[]api.Op{{Kind: api.OpPut, Name: "k", Text: "v"}, {Kind: api.OpIns, Name: "t", Pos: 3, Text: "xy"}, {Kind: api.OpAdd, Name: "k", By: -5}, {Kind: api.OpCut, Name: "t", Pos: 1, By: 2}, {Kind: api.OpDel, Name: "k"}},
			[]string{"\x05\x01\x01\x01\x04\x01\x03\x01\x05\x01\x02", "\x02\x01k\x01t", "\x05\x01\x00\x01\x01\x01\x00\x01\x01\x01\x00", "\x05\x01\x00\x01\x03\x01\x7d\x01\x01\x01\x7f", "\x04\x02\x00\x01\x7b\x01\x02\x01\x00", "\x01v\x02xy"}},
		// names by their first coming, not by their order, and those that come again
		{[]api.Op{{Kind: api.OpDel, Name: "b"}, {Kind: api.OpDel, Name: "a"}, {Kind: api.OpDel, Name: "b"}, {Kind: api.OpDel, Name: "c"}, {Kind: api.OpDel, Name: "c"}, {Kind: api.OpDel, Name: "B"}},
			[]string{"\x01\x06\x02", "\x04\x01b\x01a\x01c\x01B", "\x05\x01\x00\x01\x01\x01\x00\x02\x02\x01\x03", "\x01\x06\x00", "\x01\x06\x00", ""}},
		// as many as there may be
		{times(256, api.Op{Kind: api.OpDel, Name: "a"}), []string{"\x01\x80\x02\x02", "\x01\x01a", "\x01\x80\x02\x00", "\x01\x80\x02\x00", "\x01\x80\x02\x00", ""}},
		{unlike, []string{"\x01\x80\x02\x02", unlikeLaid, numbersFrom0(), "\x01\x80\x02\x00", "\x01\x80\x02\x00", ""}},
		{times(256, api.Op{Kind: api.OpIns, Name: "t", Pos: 9, Text: long}),
			[]string{"\x01\x80\x02\x04", "\x01\x01t", "\x01\x80\x02\x00", "\x02\x01\x09\xff\x01\x00", "\x01\x80\x02\x00", strings.Repeat("\x80\x08"+long, 256)}},
	}
}

// P7.3
func TestPut(t *testing.T) {
	for _, s := range samples() {
		if b, e := op.Put(s.ops); string(b) != s.laid() || e != api.OK {
			t.Errorf("Put(%.200v) = %.80x, %d; want %.80x", s.ops, b, int(e), s.laid())
		}
	}
	if b, e := op.Put([]api.Op{}); string(b) != "\x00\x00\x00\x00\x00" || e != api.OK {
		t.Errorf("Put of an empty list = %x, %d", b, int(e))
	}
}

func expectPutError(t *testing.T, what string, l []api.Op, want api.Errno) {
	t.Helper()
	if b, e := op.Put(l); len(b) != 0 || e != want {
		t.Errorf("Put of %s = %.20x, %d; want %d", what, b, int(e), int(want))
	}
}

// P7.3: too many come first, then one that may not be, wherever it stands.
func TestPutErrors(t *testing.T) {
	may := api.Op{Kind: api.OpDel, Name: "a"}
	expectPutError(t, "257 that may be", times(257, may), api.ErrLong)
	expectPutError(t, "257 that may not be", times(257, api.Op{}), api.ErrLong)
	expectPutError(t, "256 that may not be", times(256, api.Op{}), api.ErrOp)
	expectPutError(t, "a great many", times(1<<17, may), api.ErrLong)
	for what, wrong := range map[string]api.Op{
		"no kind":            {Name: "a"},
		"another kind":       {Kind: 6, Name: "a"},
		"a kind below 0":     {Kind: -1, Name: "a"},
		"no name":            {Kind: api.OpDel},
		"a put with a place": {Kind: api.OpPut, Name: "a", Pos: 1, Text: "v"},
		"a long put":         {Kind: api.OpPut, Name: "a", Text: strings.Repeat("x", 1025)},
		"a del with a text":  {Kind: api.OpDel, Name: "a", Text: "v"},
		"a great add":        {Kind: api.OpAdd, Name: "a", By: 1<<31 + 1},
		"an empty ins":       {Kind: api.OpIns, Name: "a"},
		"an empty cut":       {Kind: api.OpCut, Name: "a"},
	} {
		for _, n := range []int{1, 2, 3, 256} {
			for _, place := range []int{0, n / 2, n - 1} {
				l := times(n, may)
				l[place] = wrong
				expectPutError(t, what+" among others", l, api.ErrOp)
			}
		}
	}
}
