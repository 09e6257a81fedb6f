package leb_test

import (
	"bytes"
	"math"
	"slices"
	"strings"
	"testing"

	"stemma/api"
	"stemma/leb"
)

func expectUint(t *testing.T, b string, n uint64, used int, e api.Errno) {
	t.Helper()
	gotN, gotUsed, gotE := leb.GetUint([]byte(b))
	if gotN != n || gotUsed != used || gotE != e {
		t.Errorf("GetUint(%x) = %d, %d, %d; want %d, %d, %d", b, gotN, gotUsed, int(gotE), n, used, int(e))
	}
}

func expectInt(t *testing.T, b string, n int64, used int, e api.Errno) {
	t.Helper()
	gotN, gotUsed, gotE := leb.GetInt([]byte(b))
	if gotN != n || gotUsed != used || gotE != e {
		t.Errorf("GetInt(%x) = %d, %d, %d; want %d, %d, %d", b, gotN, gotUsed, int(gotE), n, used, int(e))
	}
}

func expectText(t *testing.T, b string, most int, s string, used int, e api.Errno) {
	t.Helper()
	gotS, gotUsed, gotE := leb.GetText([]byte(b), most)
	if gotS != s || gotUsed != used || gotE != e {
		t.Errorf("GetText(%.12x.., %d) = %.12x.., %d, %d; want %.12x.., %d, %d", b, most, gotS, gotUsed, int(gotE), s, used, int(e))
	}
}

// tails are bytes that may stand behind what is taken off.
var tails = []string{"", "\x00", "\x01", "\x7f", "\x80", "\xff\xff\xff"}

// P2.2
func TestGetUintTakesOff(t *testing.T) {
	for n, b := range uints() {
		for _, tail := range tails {
			expectUint(t, b+tail, n, len(b), api.OK)
		}
	}
}

// P2.2
func TestGetIntTakesOff(t *testing.T) {
	for n, b := range ints() {
		for _, tail := range tails {
			expectInt(t, b+tail, n, len(b), api.OK)
		}
	}
}

// P2.2: bytes that end ahead of the last group.
func TestGetNumberCut(t *testing.T) {
	for length := range 10 {
		for _, group := range []string{"\x80", "\x81", "\xc0", "\xff"} {
			b := strings.Repeat(group, length)
			expectUint(t, b, 0, 0, api.ErrCut)
			expectInt(t, b, 0, 0, api.ErrCut)
		}
	}
	if _, _, e := leb.GetUint(nil); e != api.ErrCut {
		t.Errorf("GetUint(nil): %d", int(e))
	}
	if _, _, e := leb.GetInt(nil); e != api.ErrCut {
		t.Errorf("GetInt(nil): %d", int(e))
	}
}

// P2.2: ten groups that all say that one follows are refused, whatever follows.
func TestGetNumberTooManyGroups(t *testing.T) {
	for _, group := range []string{"\x80", "\x81", "\xff"} {
		for _, tail := range tails {
			expectUint(t, strings.Repeat(group, 10)+tail, 0, 0, api.ErrForm)
			expectInt(t, strings.Repeat(group, 10)+tail, 0, 0, api.ErrForm)
		}
	}
}

// P2.2: the last group of all that may be, behind each count of groups that say that one follows.
func TestGetUintLastGroup(t *testing.T) {
	for ahead := 1; ahead <= 9; ahead++ {
		for last := range 128 {
			b := strings.Repeat("\x80", ahead) + string(rune(last))
			if last == 0 || ahead == 9 && last > 1 {
				expectUint(t, b, 0, 0, api.ErrForm)
			} else {
				expectUint(t, b, uint64(last)<<(7*ahead), ahead+1, api.OK)
			}
		}
	}
}

// P2.2: as above; the group ahead of the last one decides whether this one is needed.
func TestGetIntLastGroup(t *testing.T) {
	for ahead := 1; ahead <= 9; ahead++ {
		for last := range 128 {
			low := strings.Repeat("\x80", ahead) + string(rune(last))
			high := strings.Repeat("\x80", ahead-1) + "\xc0" + string(rune(last))
			if ahead == 9 && last != 0 && last != 127 {
				expectInt(t, low, 0, 0, api.ErrForm)
				expectInt(t, high, 0, 0, api.ErrForm)
				continue
			}
			n := int64(last)
			if last >= 64 {
				n -= 128
			}
			if last == 0 {
				expectInt(t, low, 0, 0, api.ErrForm)
			} else {
				expectInt(t, low, n<<(7*ahead), ahead+1, api.OK)
			}
			if last == 127 {
				expectInt(t, high, 0, 0, api.ErrForm)
			} else {
				expectInt(t, high, n<<(7*ahead)+1<<(7*ahead-1), ahead+1, api.OK)
			}
		}
	}
}

// P2.2, P2.5: of all numbers of up to three bytes, those are taken off that are laid, and no others.
func TestGetNumberAllShort(t *testing.T) {
	if testing.Short() {
		t.Skip("takes seconds")
	}
	uintOf, intOf := map[string]uint64{}, map[string]int64{}
	for n := range 1 << 21 {
		uintOf[string(leb.Uint(uint64(n)))] = uint64(n)
		intOf[string(leb.Int(int64(n)-1<<20))] = int64(n) - 1<<20
	}
	for first := range 256 {
		for second := range 256 {
			thirds := 256
			if first < 128 || second < 128 {
				thirds = 1 // it is not looked at
			}
			for third := range thirds {
				checkShort(t, []byte{byte(first), byte(second), byte(third)}, uintOf, intOf)
			}
			if t.Failed() {
				return
			}
		}
	}
}

func checkShort(t *testing.T, b []byte, uintOf map[string]uint64, intOf map[string]int64) {
	last := slices.IndexFunc(b, func(group byte) bool { return group < 128 })
	n, used, e := leb.GetUint(b)
	wantN, laid := uintOf[string(b[:last+1])]
	if want := errnoOf(last, laid); e != want || n != wantN || e == api.OK && used != last+1 || e != api.OK && used != 0 {
		t.Errorf("GetUint(%x) = %d, %d, %d; want %d, error %d", b, n, used, int(e), wantN, int(want))
	}
	m, used, e := leb.GetInt(b)
	wantM, laid := intOf[string(b[:last+1])]
	if want := errnoOf(last, laid); e != want || m != wantM || e == api.OK && used != last+1 || e != api.OK && used != 0 {
		t.Errorf("GetInt(%x) = %d, %d, %d; want %d, error %d", b, m, used, int(e), wantM, int(want))
	}
}

// errnoOf tells the error of bytes whose last group stands at last (-1: nowhere), and which some number lays, or none.
func errnoOf(last int, laid bool) api.Errno {
	if last < 0 {
		return api.ErrCut
	}
	if !laid {
		return api.ErrForm
	}
	return api.OK
}

// P2.3
func TestGetTextTakesOff(t *testing.T) {
	for s, b := range texts() {
		for _, tail := range tails {
			for _, most := range []int{len(s), len(s) + 1, math.MaxInt} {
				expectText(t, b+tail, most, s, len(b), api.OK)
			}
		}
	}
}

// P2.3
func TestGetTextErrors(t *testing.T) {
	for _, x := range []struct {
		b    string
		most int
		e    api.Errno
	}{
		{"", 9, api.ErrCut},
		{"\x80", 9, api.ErrCut},
		{"\x80\x00", 9, api.ErrForm},
		{"\x81\x00a", 9, api.ErrForm},
		{strings.Repeat("\x80", 11), 9, api.ErrForm},
		{"\x03a", 9, api.ErrCut},
		{"\x03ab", 3, api.ErrCut},
		{"\x01", 1, api.ErrCut},
		{"\x03abc", 2, api.ErrLong},
		{"\x01a", 0, api.ErrLong},
		{"\x00", -1, api.ErrLong},
		{"\x00", math.MinInt, api.ErrLong},
		{"\x02ab", -1, api.ErrLong},
		// as great as numbers are: no room may be asked for, and no sum may wrap round
		{string(leb.Uint(math.MaxUint64)) + "abc", math.MaxInt, api.ErrLong},
		{string(leb.Uint(1<<63)) + "abc", math.MaxInt, api.ErrLong},
		{string(leb.Uint(math.MaxInt)) + "abc", math.MaxInt, api.ErrCut},
		{string(leb.Uint(math.MaxInt-1)) + "abc", math.MaxInt, api.ErrCut},
		// where several apply: the one that is named first
		{"\x80", -1, api.ErrCut},
		{"\x80\x00", -1, api.ErrForm},
		{"\x03a", 2, api.ErrLong},
		{"\x03", -1, api.ErrLong},
	} {
		expectText(t, x.b, x.most, "", 0, x.e)
	}
}

// P2.5
func TestLaidIsTakenOff(t *testing.T) {
	spread(func(n uint64) {
		b := leb.Uint(n)
		expectUint(t, string(b), n, len(b), api.OK)
		b = leb.Int(int64(n))
		expectInt(t, string(b), int64(n), len(b), api.OK)
		b = leb.Int(-int64(n))
		expectInt(t, string(b), -int64(n), len(b), api.OK)
	})
}

// P2.5: whatever bytes are taken off, laying the number again gives them.
func TestTakenOffIsLaid(t *testing.T) {
	spread(func(n uint64) {
		b := make([]byte, 0, 11)
		for i := range 11 {
			b = append(b, byte(n>>(5*i))|0x80&byte(n>>(3*i)))
		}
		b[9] &= byte(n >> 60)
		if number, used, e := leb.GetUint(b); e == api.OK && !bytes.Equal(leb.Uint(number), b[:used]) {
			t.Errorf("GetUint(%x) = %d, whose bytes are %x", b, number, leb.Uint(number))
		}
		if number, used, e := leb.GetInt(b); e == api.OK && !bytes.Equal(leb.Int(number), b[:used]) {
			t.Errorf("GetInt(%x) = %d, whose bytes are %x", b, number, leb.Int(number))
		}
	})
}
