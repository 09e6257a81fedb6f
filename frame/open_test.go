package frame_test

import (
	"bytes"
	"math"
	"strings"
	"testing"

	"stemma/api"
	"stemma/frame"
	"stemma/leb"
)

// tails are bytes that may stand behind a frame.
var tails = []string{"", "\x00", "\x01", "\x80\x00", "\xff\xff\xff\xff\xff\xff"}

// told is a frame as it is to be told.
type told struct {
	kind byte
	body string
}

func expectOpen(t *testing.T, b string, want told, used int, e api.Errno) {
	t.Helper()
	f, gotUsed, gotE := frame.Open([]byte(b))
	if f.Kind != want.kind || string(f.Body) != want.body || gotUsed != used || gotE != e {
		t.Errorf("Open(%.12x..) of %d bytes = %d %.8x.., %d, %d; want %d %.8x.., %d, %d",
			b, len(b), f.Kind, f.Body, gotUsed, int(gotE), want.kind, want.body, used, int(e))
	}
}

func expectScan(t *testing.T, b string, want []told, used int, e api.Errno) {
	t.Helper()
	l, gotUsed, gotE := frame.Scan([]byte(b))
	if len(l) != len(want) || gotUsed != used || gotE != e {
		t.Errorf("Scan(%.24x..) of %d bytes = %d frames, %d, %d; want %d frames, %d, %d",
			b, len(b), len(l), gotUsed, int(gotE), len(want), used, int(e))
		return
	}
	for i, f := range l {
		if f.Kind != want[i].kind || string(f.Body) != want[i].body {
			t.Errorf("Scan(%.24x..): frame %d is %d %.8x.., want %d %.8x..", b, i, f.Kind, f.Body, want[i].kind, want[i].body)
		}
	}
}

// P4.2: what stands behind is not looked at.
func TestOpenReads(t *testing.T) {
	for _, x := range frames() {
		for _, tail := range tails {
			expectOpen(t, x.b+tail, told{x.kind, x.body}, len(x.b), api.OK)
		}
	}
}

// P4.2
func TestOpenErrors(t *testing.T) {
	groups := strings.Repeat("\x80", 9)
	for _, x := range []struct {
		b string
		e api.Errno
	}{
		{"", api.ErrNone},
		{"\x00", api.ErrForm},
		{"\x00\x00\x00\x00\x00\x00", api.ErrForm},
		{"\x01", api.ErrCut},
		{"\xff", api.ErrCut},
		{"\x01\x80", api.ErrCut},
		{"\x01" + groups, api.ErrCut},
		{"\x01\x80\x00", api.ErrForm},
		{"\x01\x81\x00a\x00\x00\x00\x00", api.ErrForm},
		{"\x01" + groups + "\x02", api.ErrForm},
		{"\x01" + groups + "\x80", api.ErrForm},
		{"\x01\x81\x80\x40", api.ErrLong},
		{"\x01\x01", api.ErrCut},
		{"\x01\x00", api.ErrCut},
		{"\x01\x00\xbe\x23\xc2", api.ErrCut},
		{"\x01\x80\x80\x40", api.ErrCut}, // MaxFrame is not above it
		{"\x01\x00\x00\x00\x00\x00", api.ErrSum},
		{"\x01\x00\x58\xc2\x23\xbe", api.ErrSum}, // the sum, its highest byte first
		// as great as numbers are: no sum of lengths may wrap round
		{"\x01" + string(leb.Uint(math.MaxUint64)), api.ErrLong},
		{"\x01" + string(leb.Uint(math.MaxUint64-3)) + "abcdef", api.ErrLong},
		{"\x01" + string(leb.Uint(1<<63)) + "abcdef", api.ErrLong},
		{"\x01" + string(leb.Uint(math.MaxInt64)) + "abcdef", api.ErrLong},
		{"\x01" + string(leb.Uint(1<<32)) + "abcdef", api.ErrLong},
		// where several apply: the one that is named first
		{"\x00\x80", api.ErrForm},
		{"\x00\x81\x80\x40", api.ErrForm},
		{"\x01\x01a\x00\x00\x00", api.ErrCut},
	} {
		expectOpen(t, x.b, told{}, 0, x.e)
		expectScan(t, x.b, nil, 0, scanned(x.e))
	}
	expectOpen(t, "\x01\x81\x80\x40"+sample(api.MaxFrame+1)+"\x00\x00\x00\x00", told{}, 0, api.ErrLong)
}

// scanned tells the error of Scan where Open has e.
func scanned(e api.Errno) api.Errno {
	if e == api.ErrNone {
		return api.OK
	}
	return e
}

// P4.2: a right sum makes no frame of what is none.
func TestOpenRightSumWrongForm(t *testing.T) {
	for ahead, e := range map[string]api.Errno{
		"\x00\x01a":     api.ErrForm,
		"\x01\x81\x00a": api.ErrForm,
		"\x01\x81\x80\x40" + sample(api.MaxFrame+1):   api.ErrLong,
		"\x01\x80\x80\x80\x01" + sample(api.MaxFrame): api.ErrLong,
		"\x01\x09abcd": api.ErrCut,
	} {
		sum := frame.Crc([]byte(ahead))
		b := ahead + string([]byte{byte(sum), byte(sum >> 8), byte(sum >> 16), byte(sum >> 24)})
		expectOpen(t, b, told{}, 0, e)
	}
	for _, x := range frames() {
		expectOpen(t, "\x00"+x.b[1:], told{}, 0, api.ErrForm)
	}
}

// P4.2: of all bytes of up to two, by what the promise says of them.
func TestOpenAllShort(t *testing.T) {
	for first := range 256 {
		want := api.ErrCut
		if first == 0 {
			want = api.ErrForm
		}
		expectOpen(t, string([]byte{byte(first)}), told{}, 0, want)
		for second := range 256 {
			expectOpen(t, string([]byte{byte(first), byte(second)}), told{}, 0, want)
		}
	}
}

// P4.2, P4.3: whatever the bytes, what is opened is what Seal lays.
func TestOpenedIsSealed(t *testing.T) {
	state := uint64(1)
	opened := 0
	for range 20000 {
		b := make([]byte, 0, 24)
		for range 24 {
			state = state*6364136223846793005 + 1442695040888963407
			b = append(b, byte(state>>60))
		}
		if end := 2 + int(b[1]); state>>63 == 1 {
			sum := frame.Crc(b[:end])
			copy(b[end:], []byte{byte(sum), byte(sum >> 8), byte(sum >> 16), byte(sum >> 24)})
		}
		f, used, e := frame.Open(b)
		if e != api.OK {
			expectOpen(t, string(b), told{}, 0, e)
			continue
		}
		opened++
		if again := seal(t, f.Kind, string(f.Body)); again != string(b[:used]) {
			t.Errorf("Open(%x) is %d %x, whose bytes are %x", b, f.Kind, f.Body, again)
		}
	}
	if opened < 1000 {
		t.Errorf("only %d were opened", opened)
	}
}

// rows are frames one behind the other, none among them, bodies of several lengths, and frames within a body.
func rows(t *testing.T) [][]told {
	within := seal(t, 4, "within") + seal(t, 5, "")
	return [][]told{
		nil,
		{{1, "a"}},
		{{1, ""}},
		{{1, "a"}, {1, "a"}},
		{{255, ""}, {1, "b"}, {17, "\x00\x00\x00"}},
		{{1, within}, {2, ""}, {3, within}},
		{{9, sample(127)}, {10, sample(128)}, {11, "\x80\x80"}, {12, sample(300)}},
	}
}

// laid tells the bytes of a row, and where each frame ends.
func laid(t *testing.T, row []told) (b string, ends []int) {
	for _, x := range row {
		b += seal(t, x.kind, x.body)
		ends = append(ends, len(b))
	}
	return b, ends
}

// P4.3, P4.4
func TestScanTells(t *testing.T) {
	for _, row := range rows(t) {
		b, _ := laid(t, row)
		expectScan(t, b, row, len(b), api.OK)
	}
	many := make([]told, 3000)
	for i := range many {
		many[i] = told{byte(i%255 + 1), sample(i % 40)}
	}
	b, _ := laid(t, many)
	expectScan(t, b, many, len(b), api.OK)
	expectScan(t, frames()[10].b+frames()[10].b, []told{{255, sample(api.MaxFrame)}, {255, sample(api.MaxFrame)}}, 2*len(frames()[10].b), api.OK)
	if l, used, e := frame.Scan(nil); len(l) != 0 || used != 0 || e != api.OK {
		t.Errorf("Scan(nil) = %v, %d, %d", l, used, int(e))
	}
}

// P4.3: the frames ahead of the first error are told beside it; frames behind it are not.
func TestScanUpToAnError(t *testing.T) {
	whole := seal(t, 1, "a")
	for wrong, e := range map[string]api.Errno{
		"\x00":                     api.ErrForm,
		"\x01":                     api.ErrCut,
		"\x01\x80\x00":             api.ErrForm,
		"\x01\x81\x80\x40":         api.ErrLong,
		"\x01\x00\x00\x00\x00\x00": api.ErrSum,
		"\x01\x7fabc":              api.ErrCut,
	} {
		for _, row := range rows(t) {
			b, _ := laid(t, row)
			expectScan(t, b+wrong, row, len(b), e)
			if e != api.ErrCut {
				expectScan(t, b+wrong+whole, row, len(b), e)
			}
		}
	}
}

// P4.4: cut off anywhere.
func TestScanCutOff(t *testing.T) {
	for _, row := range rows(t) {
		b, ends := laid(t, row)
		for cut := range len(b) + 1 {
			whole, used := 0, 0
			for whole < len(ends) && ends[whole] <= cut {
				used = ends[whole]
				whole++
			}
			want := api.ErrCut
			if used == cut {
				want = api.OK
			}
			expectScan(t, b[:cut], row[:whole], used, want)
		}
	}
}

// P4.4: of the kind, the body and the sum each byte, changed to each other one.
func TestChangedByteIsNoFrame(t *testing.T) {
	for _, x := range []told{{1, ""}, {1, "a"}, {200, "some text"}, {255, "\x00\x00\x00\x00\xff\xff\xff\xff"}} {
		ahead, behind := seal(t, 3, "ahead"), seal(t, 3, "behind")
		whole := seal(t, x.kind, x.body)
		for i := range len(whole) {
			if i == 1 {
				continue // the length's byte: of it nothing is promised
			}
			for other := range 256 {
				if byte(other) == whole[i] {
					continue
				}
				changed := whole[:i] + string([]byte{byte(other)}) + whole[i+1:]
				want := api.ErrSum
				if i == 0 && other == 0 {
					want = api.ErrForm
				}
				expectOpen(t, changed, told{}, 0, want)
				expectScan(t, ahead+changed+behind, []told{{3, "ahead"}}, len(ahead), want)
			}
		}
	}
}

// P4.4: as above, of a body whose length has several bytes.
func TestChangedByteOfLongBody(t *testing.T) {
	whole := []byte(seal(t, 6, sample(400)))
	for i := range whole {
		if i == 1 || i == 2 {
			continue
		}
		for bit := range 8 {
			whole[i] ^= 1 << bit
			expectOpen(t, string(whole), told{}, 0, api.ErrSum)
			whole[i] ^= 1 << bit
		}
	}
}

// Rule 3: what is handed in is not changed and not kept, and no two bodies have memory in common.
func TestReadIsNewMemory(t *testing.T) {
	row := []told{{1, "one"}, {2, ""}, {3, sample(50)}, {4, "four"}}
	laidRow, _ := laid(t, row)
	b := []byte(laidRow)
	f, _, _ := frame.Open(b)
	l, _, _ := frame.Scan(b)
	if string(b) != laidRow {
		t.Error("reading changed the bytes")
	}
	spoil(b)
	if string(f.Body) != "one" {
		t.Errorf("writing to the bytes changed the body to %x", f.Body)
	}
	for i, x := range row {
		if string(l[i].Body) != x.body {
			t.Errorf("writing to the bytes, or to another body, changed body %d to %x", i, l[i].Body)
		}
		spoil(l[i].Body)
	}
	b = []byte(laidRow)
	f, _, _ = frame.Open(b)
	l, _, _ = frame.Scan(b)
	spoil(f.Body)
	for _, g := range l {
		spoil(g.Body)
	}
	if !bytes.Equal(b, []byte(laidRow)) {
		t.Error("writing to a body changed the bytes")
	}
}
