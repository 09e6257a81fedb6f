package hashes_test

import (
	"bytes"
	"math"
	"slices"
	"strings"
	"testing"

	"stemma/api"
	"stemma/hashes"
)

// laid tells the bytes of a head and hashes behind it.
func laid(head string, l ...api.Hash) string {
	for _, h := range l {
		head += string(h[:])
	}
	return head
}

// many tells n hashes that rise, with something at each of their bytes.
func many(n int) []api.Hash {
	l := make([]api.Hash, n)
	for i := range l {
		l[i] = api.Hash{byte(i >> 16), byte(i >> 8), byte(i)}
		for j := 3; j < len(l[i]); j++ {
			l[i][j] = byte(i*7 + j)
		}
	}
	return l
}

// expectGet asks for a list and how many bytes it has, or for an error beside which there is nothing.
func expectGet(t *testing.T, b string, most int, l []api.Hash, used int, e api.Errno) {
	t.Helper()
	gotList, gotUsed, gotErrno := hashes.Get([]byte(b), most)
	if !slices.Equal(gotList, l) || gotUsed != used || gotErrno != e {
		t.Errorf("Get(%.8x.. of %d bytes, %d) = %s, %d, %d; want %s, %d, %d", b, len(b), most, tell(gotList), gotUsed, int(gotErrno), tell(l), used, int(e))
	}
}

// P6.3: as they stand, in order or not.
func TestPut(t *testing.T) {
	for _, x := range []struct {
		l    []api.Hash
		want string
	}{
		{nil, "\x00"},
		{[]api.Hash{}, "\x00"},
		{short(0), "\x01" + strings.Repeat("\x00", 32)},
		{short(2), "\x01\x02" + strings.Repeat("\x00", 31)},
		{[]api.Hash{at(31, 3), {4}}, "\x02" + strings.Repeat("\x00", 31) + "\x03\x04" + strings.Repeat("\x00", 31)},
		{short(2, 1, 2), laid("\x03", api.Hash{2}, api.Hash{1}, api.Hash{2})},
		{many(127), laid("\x7f", many(127)...)},
		{many(128), laid("\x80\x01", many(128)...)},
		{many(300), laid("\xac\x02", many(300)...)},
	} {
		if got := hashes.Put(x.l); string(got) != x.want {
			t.Errorf("Put of %d hashes = %.40x.., want %.40x..", len(x.l), got, x.want)
		}
	}
}

// P6.3
func TestGetTakesOff(t *testing.T) {
	expectGet(t, "\x00", 0, nil, 1, api.OK)
	expectGet(t, "\x00", 9, nil, 1, api.OK)
	expectGet(t, laid("\x01", api.Hash{}), 1, short(0), 33, api.OK)
	expectGet(t, laid("\x02", api.Hash{1}, api.Hash{2}), 2, short(1, 2), 65, api.OK)
	expectGet(t, laid("\x02", api.Hash{1}, api.Hash{2}), 3, short(1, 2), 65, api.OK)
	expectGet(t, laid("\x02", api.Hash{1}, api.Hash{2}), math.MaxInt, short(1, 2), 65, api.OK)
	expectGet(t, laid("\x10", risers()...), 16, risers(), 1+16*32, api.OK)
	expectGet(t, laid("\x7f", many(127)...), 127, many(127), 1+127*32, api.OK)
	expectGet(t, laid("\x80\x01", many(128)...), 128, many(128), 2+128*32, api.OK)
	expectGet(t, laid("\xac\x02", many(300)...), 300, many(300), 2+300*32, api.OK)
}

// P6.3: what stands behind the list is not looked at.
func TestGetLeavesWhatIsBehind(t *testing.T) {
	expectGet(t, "\x00\x01", 9, nil, 1, api.OK)
	expectGet(t, laid("\x00", api.Hash{5}), 9, nil, 1, api.OK)
	expectGet(t, laid("\x01", api.Hash{1})+"\xff", 9, short(1), 33, api.OK)
	expectGet(t, laid("\x01", api.Hash{2}, api.Hash{1}), 9, short(2), 33, api.OK)
	expectGet(t, laid("\x02", api.Hash{1}, api.Hash{2}, api.Hash{2}), 9, short(1, 2), 65, api.OK)
}

// P6.3: each error, and where several apply the one that is named first.
func TestGetErrors(t *testing.T) {
	rising, twice, falling := laid("", short(1, 2)...), laid("", short(1, 1)...), laid("", short(2, 1)...)
	greatest := strings.Repeat("\xff", 9) + "\x01" // 2^64 - 1
	for _, x := range []struct {
		b    string
		most int
		e    api.Errno
	}{
		{"", 9, api.ErrCut},
		{"\x80", 9, api.ErrCut},
		{"", -1, api.ErrCut},
		{"\x80", 0, api.ErrCut},
		{"\x80\x00", 9, api.ErrForm},
		{"\x80\x00", -1, api.ErrForm},
		{"\x82\x00" + rising, 9, api.ErrForm},
		{"\x82\x00" + rising, 1, api.ErrForm},
		{strings.Repeat("\x80", 10) + rising, 9, api.ErrForm},
		{strings.Repeat("\xff", 9) + "\x02", 9, api.ErrForm},

		{"\x00", -1, api.ErrLong},
		{"\x00", math.MinInt, api.ErrLong},
		{"\x02" + rising, 1, api.ErrLong},
		{"\x02" + rising, 0, api.ErrLong},
		{"\x02" + rising, -1, api.ErrLong},
		{"\x02" + rising, math.MinInt, api.ErrLong},
		{"\x01", 0, api.ErrLong}, // and cut
		{"\x02" + falling, 1, api.ErrLong},
		{greatest, 9, api.ErrLong},
		{greatest, math.MaxInt, api.ErrLong},
		{greatest, -1, api.ErrLong},
		{strings.Repeat("\x80", 9) + "\x01", math.MaxInt, api.ErrLong}, // 2^63

		{"\x01", 9, api.ErrCut},
		{"\x01", 1, api.ErrCut},
		{"\x02" + rising[:63], 2, api.ErrCut},
		{"\x02" + rising[:32], 2, api.ErrCut},
		{"\x02" + rising[:1], 2, api.ErrCut},
		{"\x03" + rising, 9, api.ErrCut},
		{"\x03" + falling, 9, api.ErrCut}, // and no rising list
		{"\x03" + twice, 9, api.ErrCut},
		{strings.Repeat("\xff", 8) + "\x7f" + rising, math.MaxInt, api.ErrCut},      // 2^63 - 1
		{strings.Repeat("\x80", 8) + "\x08" + rising, math.MaxInt, api.ErrCut},      // 2^59: its bytes would be 2^64
		{"\x82" + strings.Repeat("\x80", 7) + "\x08" + rising, 1 << 60, api.ErrCut}, // 2^59 and 2

		{"\x02" + twice, 2, api.ErrForm},
		{"\x02" + falling, 2, api.ErrForm},
		{"\x02" + falling, math.MaxInt, api.ErrForm},
		{"\x02" + falling + "\x00", 2, api.ErrForm},
		{"\x03" + rising + laid("", api.Hash{2}), 9, api.ErrForm},
		{"\x03" + rising + laid("", api.Hash{1}), 9, api.ErrForm},
		{"\x02" + laid("", api.Hash{}, api.Hash{}), 9, api.ErrForm},
		{"\x02" + laid("", at(31, 2), at(31, 1)), 9, api.ErrForm},
	} {
		expectGet(t, x.b, x.most, nil, 0, x.e)
	}
}

// P6.3: cut anywhere, and with every most.
func TestGetCutAnywhere(t *testing.T) {
	l := many(130)
	b := laid("\x82\x01", l...)
	for n := range len(b) {
		expectGet(t, b[:n], 130, nil, 0, api.ErrCut)
	}
	for most := range 130 {
		expectGet(t, b, most, nil, 0, api.ErrLong)
	}
	expectGet(t, b, 130, l, len(b), api.OK)
}

// P6.6
func TestGetOfPut(t *testing.T) {
	for _, n := range []int{0, 1, 2, 16, 127, 128, 256, 4096} {
		l := many(n)
		b := hashes.Put(l)
		expectGet(t, string(b), n, l, len(b), api.OK)
		expectGet(t, string(b)+"\x00", n, l, len(b), api.OK)
		expectGet(t, string(b), n-1, nil, 0, api.ErrLong)
		if got, used, _ := hashes.Get(b, n); string(hashes.Put(got)) != string(b[:used]) {
			t.Errorf("Put of Get of %d hashes are other bytes", n)
		}
	}
}

// P6.3: whatever the bytes are, the answer is a rising list whose bytes they begin with, or an error and nothing.
func TestGetAnyBytes(t *testing.T) {
	r := row(1)
	for range 20000 {
		b := make([]byte, r.below(100))
		for i := range b {
			b[i] = byte(r.below(3))
		}
		most := r.below(5) - 1
		l, used, e := hashes.Get(b, most)
		switch {
		case e != api.OK && (len(l) != 0 || used != 0):
			t.Fatalf("Get(%x, %d) = %s, %d beside the error %d", b, most, tell(l), used, int(e))
		case e == api.OK && (!hashes.Rising(l) || len(l) > most || !bytes.Equal(hashes.Put(l), b[:used])):
			t.Fatalf("Get(%x, %d) = %s, %d", b, most, tell(l), used)
		}
	}
}
