package column_test

import (
	"bytes"
	"math"
	"slices"
	"strings"
	"testing"

	"stemma/api"
	"stemma/column"
	"stemma/leb"
)

// getter is one of the three calls that take off.
type getter[T any] func(b []byte, most int) (l []T, used int, e api.Errno)

// tails are bytes that may stand behind what is taken off.
var tails = []string{"", "\x00", "\x01\x05", "\x80", "\xff\xff\xff"}

func expectTaken[T comparable](t *testing.T, what string, get getter[T], b string, most int, want []T, used int) {
	t.Helper()
	got, gotUsed, e := get([]byte(b), most)
	if !slices.Equal(got, want) || gotUsed != used || e != api.OK {
		t.Errorf("%s(%.24x.., %d) = %d items, %d, %d; want %d items, %d, OK", what, b, most, len(got), gotUsed, int(e), len(want), used)
	}
}

func expectErrno[T comparable](t *testing.T, what string, get getter[T], b string, most int, want api.Errno) {
	t.Helper()
	got, used, e := get([]byte(b), most)
	if len(got) != 0 || used != 0 || e != want {
		t.Errorf("%s(%.24x.., %d) = %d items, %d, %d; want none, 0, %d", what, b, most, len(got), used, int(e), int(want))
	}
}

// expectTakenOff asks for lists at each most that they fit, and at the greatest that they do not fit.
func expectTakenOff[T comparable](t *testing.T, what string, get getter[T], lists []laid[T]) {
	t.Helper()
	for _, x := range lists {
		for _, tail := range tails {
			for _, most := range []int{len(x.list), len(x.list) + 1, api.MaxColumn, api.MaxColumn + 1, math.MaxInt} {
				expectTaken(t, what, get, x.b+tail, most, x.list, len(x.b))
			}
			if len(x.list) > 0 {
				expectErrno(t, what, get, x.b+tail, len(x.list)-1, api.ErrLong)
			}
		}
	}
}

// P3.4, P3.5
func TestGetRunsTakesOff(t *testing.T) {
	expectTakenOff(t, "GetRuns", column.GetRuns, runs())
}

// P3.4, P3.5
func TestGetDeltasTakesOff(t *testing.T) {
	expectTakenOff(t, "GetDeltas", column.GetDeltas, deltas())
}

// P3.4, P3.5
func TestGetFlagsTakesOff(t *testing.T) {
	expectTakenOff(t, "GetFlags", column.GetFlags, flags())
}

// wrong are bytes that are refused, and why.
type wrong struct {
	b    string
	most int
	e    api.Errno
}

// P3.4: runs of numbers and of differences have the same errors.
func TestGetNumbersErrors(t *testing.T) {
	tooLong := strings.Repeat("\x80", 10) // groups that all say that one follows
	for _, x := range []wrong{
		// bytes that end too early
		{"", 9, api.ErrCut},
		{"\x80", 9, api.ErrCut},
		{"\x01", 9, api.ErrCut},
		{"\x01\x82", 9, api.ErrCut},
		{"\x01\x02", 9, api.ErrCut},
		{"\x01\x02\xff", 9, api.ErrCut},
		{"\x02\x02\x05", 9, api.ErrCut},
		{"\x02\x02\x05\x01", 9, api.ErrCut},
		// numbers of too many groups
		{"\x81\x00\x01\x05", 9, api.ErrForm},
		{tooLong + "\x01", 9, api.ErrForm},
		{"\x01\x81\x00\x05", 9, api.ErrForm},
		{"\x01" + tooLong, 9, api.ErrForm},
		{"\x01\x01\x85\x00", 9, api.ErrForm},
		{"\x01\x01\xff\x7f", 9, api.ErrForm},
		{"\x01\x01" + tooLong, 9, api.ErrForm},
		// a run that has no number
		{"\x01\x00\x05", 9, api.ErrForm},
		{"\x02\x01\x05\x00\x06", 9, api.ErrForm},
		{"\x02\x00\x05\x01\x06", 9, api.ErrForm},
		// a run of the number of the run ahead
		{"\x02\x01\x05\x01\x05", 9, api.ErrForm},
		{"\x03\x01\x05\x01\x06\x01\x06", 9, api.ErrForm},
		{"\x02\x01\x00\x01\x00", 9, api.ErrForm},
		// too many runs
		{"\x0a", 9, api.ErrLong},
		{"\x01\x01\x05", 0, api.ErrLong},
		{"\x03\x01\x05\x01\x06\x01\x07", 2, api.ErrLong},
		{string(leb.Uint(math.MaxUint64)), 9, api.ErrLong},
		{string(leb.Uint(1 << 63)), 9, api.ErrLong},
		// too many numbers
		{"\x01\x0a\x05", 9, api.ErrLong},
		{"\x02\x09\x05\x01\x06", 9, api.ErrLong},
		{"\x02\x05\x05\x05\x06", 9, api.ErrLong},
		{"\x01" + string(leb.Uint(math.MaxUint64)) + "\x05", 9, api.ErrLong},
		{"\x01" + string(leb.Uint(1<<63)) + "\x05", 9, api.ErrLong},
		{"\x02\x01\x05" + string(leb.Uint(math.MaxUint64)) + "\x06", 9, api.ErrLong},
		{"\x02\x01\x05" + string(leb.Uint(math.MaxInt64)) + "\x06", 9, api.ErrLong},
		// where several apply: the one of the bytes that stand ahead
		{"\x82\x00\x0a", 0, api.ErrForm},
		{"\x8a", 0, api.ErrCut},
		{"\x02\x00\x05\x01", 1, api.ErrLong},
		{"\x0a\x00", 9, api.ErrLong},
		{"\x0a\x0a\x05", 9, api.ErrLong},
		{"\x01\x00", 9, api.ErrForm},
		{"\x01\x00\xff", 9, api.ErrForm},
		{"\x01\x0a", 9, api.ErrLong},
		{"\x01\x0a\x85\x00", 9, api.ErrLong},
		{"\x02\x09\x05\x01\x05", 9, api.ErrLong},
		{"\x02\x09\x05\x00\x05", 9, api.ErrForm},
		{"\x02\x01\x05\x81\x00\x05", 9, api.ErrForm},
		{"\x02\x01\x05\x01\x85", 9, api.ErrCut},
		{"\x03\x01\x05\x01\x05\x0a", 9, api.ErrForm},
		{"\x03\x01\x05\x01\x05", 9, api.ErrForm},
		{"\x03\x01\x05\x0a\x05\x00", 9, api.ErrLong},
	} {
		expectErrno(t, "GetRuns", column.GetRuns, x.b, x.most, x.e)
		expectErrno(t, "GetDeltas", column.GetDeltas, x.b, x.most, x.e)
	}
}

// P3.4: that the list goes around does not hide a run of the same difference, nor does the same number make one.
func TestGetDeltasAsksOfDifferences(t *testing.T) {
	expectErrno(t, "GetDeltas", column.GetDeltas, "\x02\x01"+leastInt+"\x01"+leastInt, 9, api.ErrForm)
	expectTaken(t, "GetDeltas", column.GetDeltas, "\x02\x01\x05\x02\x00", 9, []int64{5, 5, 5}, 5)
	expectErrno(t, "GetRuns", column.GetRuns, "\x02\x01"+leastInt+"\x01"+leastInt, 9, api.ErrForm)
}

// P3.4
func TestGetFlagsErrors(t *testing.T) {
	tooLong := strings.Repeat("\x80", 10)
	for _, x := range []wrong{
		// bytes that end too early
		{"", 9, api.ErrCut},
		{"\x80", 9, api.ErrCut},
		{"\x01", 9, api.ErrCut},
		{"\x01\x81", 9, api.ErrCut},
		{"\x02\x01", 9, api.ErrCut},
		{"\x02\x00", 9, api.ErrCut},
		// numbers of too many groups
		{"\x81\x00\x01", 9, api.ErrForm},
		{tooLong + "\x01", 9, api.ErrForm},
		{"\x01\x81\x00", 9, api.ErrForm},
		{"\x02\x80\x00\x01", 9, api.ErrForm},
		{"\x02\x01" + tooLong, 9, api.ErrForm},
		// a stretch of none that is not the first one, or is the only one
		{"\x01\x00", 9, api.ErrForm},
		{"\x02\x01\x00", 9, api.ErrForm},
		{"\x02\x00\x00", 9, api.ErrForm},
		{"\x03\x00\x01\x00", 9, api.ErrForm},
		{"\x03\x01\x00\x01", 9, api.ErrForm},
		// too many stretches: one more than most may be
		{"\x0b", 9, api.ErrLong},
		{"\x02\x00\x01", 0, api.ErrLong},
		{"\x04\x00\x01\x01\x01", 2, api.ErrLong},
		{string(leb.Uint(math.MaxUint64)), 9, api.ErrLong},
		{string(leb.Uint(1 << 63)), 9, api.ErrLong},
		// too many truths
		{"\x01\x01", 0, api.ErrLong},
		{"\x01\x0a", 9, api.ErrLong},
		{"\x02\x00\x0a", 9, api.ErrLong},
		{"\x02\x09\x01", 9, api.ErrLong},
		{"\x03\x00\x05\x05", 9, api.ErrLong},
		{"\x03\x01\x01\x01", 2, api.ErrLong},
		{"\x01" + string(leb.Uint(math.MaxUint64)), 9, api.ErrLong},
		{"\x02\x01" + string(leb.Uint(math.MaxUint64)), 9, api.ErrLong},
		{"\x02\x01" + string(leb.Uint(math.MaxInt64)), 9, api.ErrLong},
		// where several apply: the one of the bytes that stand ahead
		{"\x8b\x00", 9, api.ErrForm},
		{"\x8b", 9, api.ErrCut},
		{"\x01\x00", 0, api.ErrForm},
		{"\x01", 0, api.ErrCut},
		{"\x02\x00", 0, api.ErrLong},
		{"\x03\x09\x01", 9, api.ErrLong},
		{"\x03\x01\x00\x0a", 9, api.ErrForm},
		{"\x03\x0a\x00\x01", 9, api.ErrLong},
		{"\x03\x09\x00", 9, api.ErrForm},
	} {
		expectErrno(t, "GetFlags", column.GetFlags, x.b, x.most, x.e)
	}
}

// P3.4: a most below 0 is a most of 0.
func TestMostIsBroughtUp(t *testing.T) {
	for _, most := range []int{0, -1, math.MinInt} {
		expectTaken(t, "GetRuns", column.GetRuns, "\x00\x07", most, nil, 1)
		expectTaken(t, "GetDeltas", column.GetDeltas, "\x00\x07", most, nil, 1)
		expectTaken(t, "GetFlags", column.GetFlags, "\x00\x07", most, nil, 1)
		expectErrno(t, "GetRuns", column.GetRuns, "\x01\x01\x05", most, api.ErrLong)
		expectErrno(t, "GetDeltas", column.GetDeltas, "\x01\x01\x05", most, api.ErrLong)
		expectErrno(t, "GetFlags", column.GetFlags, "\x01\x01", most, api.ErrLong)
		expectErrno(t, "GetFlags", column.GetFlags, "\x02\x00\x01", most, api.ErrLong)
	}
}

// P3.4: a most above MaxColumn is MaxColumn, for numbers in one run and in as many runs.
func TestMostIsBroughtDown(t *testing.T) {
	alternating := make([]int64, api.MaxColumn+1)
	truths := make([]bool, api.MaxColumn+1)
	for i := range alternating {
		alternating[i] = int64(i % 2)
		truths[i] = i%2 == 0
	}
	for _, most := range []int{api.MaxColumn, api.MaxColumn + 1, math.MaxInt} {
		for _, list := range [][]int64{alternating, slices.Repeat([]int64{3}, api.MaxColumn+1)} {
			fits := list[:api.MaxColumn]
			b := string(column.Runs(fits))
			expectTaken(t, "GetRuns", column.GetRuns, b, most, fits, len(b))
			expectErrno(t, "GetRuns", column.GetRuns, string(column.Runs(list)), most, api.ErrLong)
			b = string(column.Deltas(fits))
			expectTaken(t, "GetDeltas", column.GetDeltas, b, most, fits, len(b))
			expectErrno(t, "GetDeltas", column.GetDeltas, string(column.Deltas(list)), most, api.ErrLong)
		}
		for _, list := range [][]bool{truths, slices.Repeat([]bool{true}, api.MaxColumn+1)} {
			fits := list[:api.MaxColumn]
			b := string(column.Flags(fits))
			expectTaken(t, "GetFlags", column.GetFlags, b, most, fits, len(b))
			expectErrno(t, "GetFlags", column.GetFlags, string(column.Flags(list)), most, api.ErrLong)
		}
	}
}

// lists calls f with every list of up to four of the things.
func lists[T any](things []T, f func(l []T)) {
	var grow func(l []T)
	grow = func(l []T) {
		f(l)
		if len(l) == 4 {
			return
		}
		for _, thing := range things {
			grow(append(slices.Clone(l), thing))
		}
	}
	grow(nil)
}

// expectJustLaid asks for all short bytes: those that begin with what lay lays are taken off as laid, and no others.
func expectJustLaid[T comparable](t *testing.T, what string, things []T, lay func([]T) []byte, get getter[T]) {
	t.Helper()
	laidAs := map[string][]T{}
	lists(things, func(l []T) { laidAs[string(lay(l))] = l })
	var ask func(b []byte)
	ask = func(b []byte) {
		got, used, e := get(b, 4)
		begins := false
		for end := range len(b) + 1 {
			if want, ok := laidAs[string(b[:end])]; ok {
				begins = true
				if e != api.OK || used != end || !slices.Equal(got, want) {
					t.Errorf("%s(%x) = %v, %d, %d; want %v, %d, OK", what, b, got, used, int(e), want, end)
				}
			}
		}
		if !begins && (e == api.OK || used != 0 || len(got) != 0) {
			t.Errorf("%s(%x) = %v, %d, %d, though no list is laid so", what, b, got, used, int(e))
		}
		if len(b) < 7 && !t.Failed() {
			for _, next := range []byte{0, 1, 2, 3, 4, 5, 0x7f} {
				ask(append(slices.Clone(b), next))
			}
		}
	}
	ask(nil)
}

// P3.5
func TestJustWhatIsLaidIsTakenOff(t *testing.T) {
	numbers := []int64{-1, 0, 1, 2, 3, 4, 5}
	expectJustLaid(t, "GetRuns", numbers, column.Runs, column.GetRuns)
	expectJustLaid(t, "GetFlags", []bool{false, true}, column.Flags, column.GetFlags)
}

// P3.5: numbers far apart, each list taken off as it was.
func TestLaidIsTakenOff(t *testing.T) {
	numbers := []int64{0, 1, -1, 64, -65, math.MaxInt64, math.MinInt64}
	lists(numbers, func(l []int64) {
		b := string(column.Runs(l))
		expectTaken(t, "GetRuns", column.GetRuns, b+"\x01", len(l), l, len(b))
		b = string(column.Deltas(l))
		expectTaken(t, "GetDeltas", column.GetDeltas, b+"\x01", len(l), l, len(b))
	})
	lists([]bool{false, true}, func(l []bool) {
		b := string(column.Flags(l))
		expectTaken(t, "GetFlags", column.GetFlags, b+"\x01", len(l), l, len(b))
	})
}

// P3.5: whatever bytes are taken off, laying the list again gives them.
func TestTakenOffIsLaid(t *testing.T) {
	n := uint64(1)
	b := make([]byte, 12)
	for range 200000 {
		n = n*6364136223846793005 + 1442695040888963407
		for i := range b {
			b[i] = byte(n>>(4*i+8)) & 0x83
		}
		if l, used, e := column.GetRuns(b, 500); e == api.OK && !bytes.Equal(column.Runs(l), b[:used]) {
			t.Fatalf("GetRuns(%x) = %v, whose bytes are %x", b, l, column.Runs(l))
		}
		if l, used, e := column.GetDeltas(b, 500); e == api.OK && !bytes.Equal(column.Deltas(l), b[:used]) {
			t.Fatalf("GetDeltas(%x) = %v, whose bytes are %x", b, l, column.Deltas(l))
		}
		if l, used, e := column.GetFlags(b, 500); e == api.OK && !bytes.Equal(column.Flags(l), b[:used]) {
			t.Fatalf("GetFlags(%x) = %v, whose bytes are %x", b, l, column.Flags(l))
		}
	}
}

// spoil writes to a list and its spare room.
func spoil[T any](l []T, with T) {
	l = l[:cap(l)]
	for i := range l {
		l[i] = with
	}
}

// Rule 3: what is handed in is not changed, and what one call answers, with its spare room, is no other call's.
func TestTakenIsNewMemory(t *testing.T) {
	b := []byte("\x02\x03\x05\x01\x07")
	numbers, _, _ := column.GetRuns(b, 9)
	sums, _, _ := column.GetDeltas(b, 9)
	truths, _, _ := column.GetFlags(b, 9)
	other, _, _ := column.GetRuns(b, 9)
	spoil(other, 77)
	other, _, _ = column.GetDeltas(b, 9)
	spoil(other, 77)
	otherTruths, _, _ := column.GetFlags(b, 9)
	spoil(otherTruths, true)
	if string(b) != "\x02\x03\x05\x01\x07" {
		t.Errorf("taking off changed the bytes: %x", b)
	}
	spoil(b, 0)
	if !slices.Equal(numbers, []int64{5, 5, 5, 7}) || !slices.Equal(sums, []int64{5, 10, 15, 22}) {
		t.Errorf("numbers changed: %v, %v", numbers, sums)
	}
	if !slices.Equal(truths, []bool{false, false, false, true, true, true, true, true}) {
		t.Errorf("truths changed: %v", truths)
	}
}
