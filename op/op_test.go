package op_test

import (
	"math"
	"slices"
	"strings"
	"testing"

	"stemma/api"
	"stemma/op"
)

// span is from where to where a number may be.
type span struct{ least, most int }

func (s span) has(n int) bool { return s.least <= n && n <= s.most }

// may is what operations of a kind may have: the chapter's list, kind by kind.
type may struct{ pos, by, text span }

func mayOf() map[int]may {
	nought := span{0, 0}
	return map[int]may{
		api.OpPut: {nought, nought, span{0, 1024}},
		api.OpDel: {nought, nought, nought},
		api.OpAdd: {nought, span{-1 << 31, 1 << 31}, nought},
		api.OpIns: {span{0, 1 << 40}, nought, span{1, 1024}},
		api.OpCut: {span{0, 1 << 40}, span{1, 1024}, nought},
	}
}

func expectCheck(t *testing.T, o api.Op, may bool) {
	t.Helper()
	want := api.ErrOp
	if may {
		want = api.OK
	}
	if got := op.Check(o); got != want {
		t.Errorf("Check(kind %d, name %.40q, pos %d, by %d, text of %d bytes) = %d, want %d", o.Kind, o.Name, o.Pos, o.By, len(o.Text), int(got), int(want))
	}
}

// P7.1: the numbers at each edge and beside it, of each kind, with all of the others.
func TestCheckEveryEdge(t *testing.T) {
	kinds := []int{math.MinInt, -1, api.OpNone, api.OpPut, api.OpDel, api.OpAdd, api.OpIns, api.OpCut, 6, 7, 257, 1<<32 + 1, math.MaxInt}
	places := []int{math.MinInt, -1 << 40, -1, 0, 1, 1024, 1 << 31, 1<<40 - 1, 1 << 40, 1<<40 + 1, math.MaxInt}
	bys := []int{math.MinInt, -1<<31 - 1, -1 << 31, -1<<31 + 1, -1, 0, 1, 2, 1023, 1024, 1025, 1<<31 - 1, 1 << 31, 1<<31 + 1, 1 << 40, math.MaxInt}
	lengths := []int{0, 1, 2, 1023, 1024, 1025, 1 << 16}
	for _, kind := range kinds {
		m, known := mayOf()[kind]
		for _, pos := range places {
			for _, by := range bys {
				for _, length := range lengths {
					o := api.Op{Kind: kind, Name: "a", Pos: pos, By: by, Text: strings.Repeat("x", length)}
					expectCheck(t, o, known && m.pos.has(pos) && m.by.has(by) && m.text.has(length))
				}
			}
		}
	}
}

// P7.1: Name is a name, whatever the kind.
func TestCheckNames(t *testing.T) {
	for _, o := range []api.Op{
		{Kind: api.OpPut, Text: "v"},
		{Kind: api.OpDel},
		{Kind: api.OpAdd, By: -3},
		{Kind: api.OpIns, Pos: 2, Text: "xy"},
		{Kind: api.OpCut, Pos: 2, By: 1},
	} {
		for name, may := range map[string]bool{
			"a": true, "a.b_C-9": true, "--": true, strings.Repeat("n", 32): true,
			"": false, "-": false, "a b": false, "ä": false, "a\x00": false, "a,b": false, strings.Repeat("n", 33): false,
		} {
			o.Name = name
			expectCheck(t, o, may)
		}
	}
}

// P7.1: a text is any bytes, and is counted by them.
func TestCheckTextIsBytes(t *testing.T) {
	for _, kind := range []int{api.OpPut, api.OpIns} {
		for text, may := range map[string]bool{
			"\x00": true, "\xff\xfe": true, " \n": true, "ä": true,
			strings.Repeat("ä", 512): true, strings.Repeat("ä", 513): false,
			strings.Repeat("\x00", 1024): true, strings.Repeat("\x00", 1025): false,
		} {
			expectCheck(t, api.Op{Kind: kind, Name: "a", Text: text}, may)
		}
	}
}

// P7.1: the chapter's examples.
func TestCheckExamples(t *testing.T) {
	expectCheck(t, api.Op{Kind: api.OpAdd, Name: "a", By: 1<<31 + 1}, false)
	expectCheck(t, api.Op{Kind: api.OpIns, Name: "a"}, false)
	expectCheck(t, api.Op{}, false)
}

// P7.2: whether the operation may be or not.
func TestSize(t *testing.T) {
	for _, x := range []struct {
		o    api.Op
		want int
	}{
		{api.Op{Kind: api.OpIns, Text: "abc"}, 3},
		{api.Op{Kind: api.OpIns, Name: "t", Pos: 7, Text: "a"}, 1},
		{api.Op{Kind: api.OpIns, Name: "t", Text: "ä\x00"}, 3},
		{api.Op{Kind: api.OpIns, Name: "t"}, 0},
		{api.Op{Kind: api.OpIns, Name: "-", Pos: -1, By: 9, Text: "ab"}, 2},
		{api.Op{Kind: api.OpIns, Text: strings.Repeat("x", 1024)}, 1024},
		{api.Op{Kind: api.OpIns, Text: strings.Repeat("x", 5000)}, 5000},
		{api.Op{Kind: api.OpPut, Name: "k", Text: "abc"}, 1},
		{api.Op{Kind: api.OpPut, Name: "k"}, 1},
		{api.Op{Kind: api.OpPut, Text: strings.Repeat("x", 5000)}, 1},
		{api.Op{Kind: api.OpDel, Name: "k"}, 1},
		{api.Op{Kind: api.OpDel, Text: "abc"}, 1},
		{api.Op{Kind: api.OpAdd, Name: "c", By: 5}, 1},
		{api.Op{Kind: api.OpCut, Name: "t", Pos: 1, By: 9}, 1},
		{api.Op{Kind: api.OpCut, Text: "abc"}, 1},
		{api.Op{}, 1},
		{api.Op{Text: "abc"}, 1},
		{api.Op{Kind: 6, Text: "abc"}, 1},
		{api.Op{Kind: -1, Text: "abc"}, 1},
		{api.Op{Kind: math.MinInt}, 1},
	} {
		if got := op.Size(x.o); got != x.want {
			t.Errorf("Size(kind %d, text of %d bytes) = %d, want %d", x.o.Kind, len(x.o.Text), got, x.want)
		}
	}
}

func expectSame(t *testing.T, a, b []api.Op, want bool) {
	t.Helper()
	if op.Same(a, b) != want || op.Same(b, a) != want {
		t.Errorf("Same(%v, %v) and back: want %t", a, b, want)
	}
}

// P7.4: operations differ by any field, whether they may be or not.
func TestSame(t *testing.T) {
	whole := api.Op{Kind: 4, Name: "t", Pos: 3, By: 2, Text: "xy"}
	unlike := []api.Op{
		whole,
		{Kind: 1, Name: "t", Pos: 3, By: 2, Text: "xy"},
		{Kind: 4, Name: "T", Pos: 3, By: 2, Text: "xy"},
		{Kind: 4, Name: "t", Pos: 4, By: 2, Text: "xy"},
		{Kind: 4, Name: "t", Pos: 3, By: -2, Text: "xy"},
		{Kind: 4, Name: "t", Pos: 3, By: 2, Text: "xz"},
		{Kind: 4, Name: "t", Pos: 3, By: 2, Text: "x"},
		{},
	}
	for i, a := range unlike {
		for j, b := range unlike {
			expectSame(t, []api.Op{a}, []api.Op{b}, i == j)
			expectSame(t, []api.Op{whole, a}, []api.Op{whole, b}, i == j)
			expectSame(t, []api.Op{a, b}, []api.Op{b, a}, i == j)
		}
		expectSame(t, []api.Op{a}, nil, false)
		expectSame(t, []api.Op{a}, []api.Op{a, a}, false)
		expectSame(t, []api.Op{a, whole}, []api.Op{a}, false)
	}
	expectSame(t, nil, nil, true)
	expectSame(t, nil, []api.Op{}, true)
	expectSame(t, unlike, slices.Clone(unlike), true)
}
