package column_test

import (
	"bytes"
	"math"
	"slices"
	"strings"
	"testing"

	"stemma/column"
	"stemma/leb"
)

const (
	leastInt    = "\x80\x80\x80\x80\x80\x80\x80\x80\x80\x7f" // Int of -2^63
	greatestInt = "\xff\xff\xff\xff\xff\xff\xff\xff\xff\x00" // Int of 2^63 - 1
)

// laid is a list with its bytes.
type laid[T any] struct {
	list []T
	b    string
}

func runs() []laid[int64] {
	return []laid[int64]{
		{nil, "\x00"},
		{[]int64{}, "\x00"},
		{[]int64{0}, "\x01\x01\x00"},
		{[]int64{5, 5, 5, -1}, "\x02\x03\x05\x01\x7f"},
		{[]int64{7, 7, 7}, "\x01\x03\x07"},
		{[]int64{1, 2, 3}, "\x03\x01\x01\x01\x02\x01\x03"},
		{[]int64{1, 2, 2, 1}, "\x03\x01\x01\x02\x02\x01\x01"},
		{[]int64{0, 0, 1}, "\x02\x02\x00\x01\x01"},
		{[]int64{-65, 300}, "\x02\x01\xbf\x7f\x01\xac\x02"},
		{[]int64{math.MinInt64, math.MaxInt64}, "\x02\x01" + leastInt + "\x01" + greatestInt},
		{slices.Repeat([]int64{9}, 300), "\x01\xac\x02\x09"},
		{slices.Repeat([]int64{4, 6}, 64), "\x80\x01" + strings.Repeat("\x01\x04\x01\x06", 64)},
	}
}

func deltas() []laid[int64] {
	return []laid[int64]{
		{nil, "\x00"},
		{[]int64{}, "\x00"},
		{[]int64{0}, "\x01\x01\x00"},
		{[]int64{-3}, "\x01\x01\x7d"},
		{[]int64{1, 2, 3}, "\x01\x03\x01"},
		{[]int64{5, 5, 5}, "\x02\x01\x05\x02\x00"},
		{[]int64{0, 0, 0}, "\x01\x03\x00"},
		{[]int64{9, 7, 5, 6}, "\x03\x01\x09\x02\x7e\x01\x01"},
		// around 2^64, upwards and downwards
		{[]int64{math.MinInt64, math.MaxInt64}, "\x02\x01" + leastInt + "\x01\x7f"},
		{[]int64{math.MaxInt64, math.MinInt64}, "\x02\x01" + greatestInt + "\x01\x01"},
		{[]int64{math.MinInt64, 0}, "\x01\x02" + leastInt},
		{[]int64{-1, math.MaxInt64}, "\x02\x01\x7f\x01" + leastInt},
		{[]int64{1, math.MinInt64}, "\x02\x01\x01\x01" + greatestInt},
	}
}

func flags() []laid[bool] {
	return []laid[bool]{
		{nil, "\x00"},
		{[]bool{}, "\x00"},
		{[]bool{false}, "\x01\x01"},
		{[]bool{true}, "\x02\x00\x01"},
		{[]bool{false, false, false}, "\x01\x03"},
		{[]bool{true, true, false}, "\x03\x00\x02\x01"},
		{[]bool{false, true}, "\x02\x01\x01"},
		{[]bool{false, true, false, true}, "\x04\x01\x01\x01\x01"},
		{slices.Repeat([]bool{true}, 300), "\x02\x00\xac\x02"},
		{slices.Repeat([]bool{true, false}, 64), "\x81\x01\x00" + strings.Repeat("\x01", 128)},
	}
}

func expectLaid[T any](t *testing.T, what string, lay func([]T) []byte, lists []laid[T]) {
	t.Helper()
	for _, x := range lists {
		if got := lay(x.list); string(got) != x.b {
			t.Errorf("%s(%v) = %x, want %x", what, x.list, got, x.b)
		}
	}
}

// P3.1
func TestRunsLays(t *testing.T) {
	expectLaid(t, "Runs", column.Runs, runs())
}

// P3.2
func TestDeltasLays(t *testing.T) {
	expectLaid(t, "Deltas", column.Deltas, deltas())
}

// P3.3
func TestFlagsLays(t *testing.T) {
	expectLaid(t, "Flags", column.Flags, flags())
}

// P3.1, P3.2, P3.3: MaxColumn bounds what is taken off, not what is laid.
func TestLongListsAreLaid(t *testing.T) {
	const many = 70000
	length := string(leb.Uint(many))
	expectLaid(t, "Runs", column.Runs, []laid[int64]{{slices.Repeat([]int64{2}, many), "\x01" + length + "\x02"}})
	expectLaid(t, "Deltas", column.Deltas, []laid[int64]{{slices.Repeat([]int64{0}, many), "\x01" + length + "\x00"}})
	expectLaid(t, "Flags", column.Flags, []laid[bool]{{slices.Repeat([]bool{true}, many), "\x02\x00" + length}})
}

// Rule 3: what is handed in is not changed, and what one call answers, with its spare room, is no other call's.
func TestLaidIsNewMemory(t *testing.T) {
	numbers, truths := []int64{4, 4, 9, -1}, []bool{true, false, false}
	for what, lay := range map[string]func() []byte{
		"Runs":   func() []byte { return column.Runs(numbers) },
		"Deltas": func() []byte { return column.Deltas(numbers) },
		"Flags":  func() []byte { return column.Flags(truths) },
		"none":   func() []byte { return column.Runs(nil) },
	} {
		first, second := lay(), lay()
		room := first[:cap(first)]
		for i := range room {
			room[i] = 0xee
		}
		if !bytes.Equal(second, lay()) {
			t.Errorf("%s: writing to one answer changed another one", what)
		}
	}
	if !slices.Equal(numbers, []int64{4, 4, 9, -1}) || !slices.Equal(truths, []bool{true, false, false}) {
		t.Error("laying changed the list")
	}
}
