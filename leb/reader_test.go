package leb_test

import (
	"bytes"
	"math"
	"strings"
	"testing"

	"stemma/api"
	"stemma/leb"
)

// someHash tells a hash of 32 unlike bytes.
func someHash() (h api.Hash) {
	for i := range h {
		h[i] = byte(200 + 3*i)
	}
	return h
}

// expectReader asks for all that a reader tells of itself; asking changes nothing, so it asks twice.
func expectReader(t *testing.T, what string, r *leb.Reader, left int, err, done api.Errno) {
	t.Helper()
	for range 2 {
		if r.Left() != left || r.Err() != err || r.Done() != done {
			t.Fatalf("%s: Left %d, Err %d, Done %d; want %d, %d, %d", what, r.Left(), int(r.Err()), int(r.Done()), left, int(err), int(done))
		}
	}
}

// expectNothing asks for one thing of each kind of a reader that has none to give.
func expectNothing(t *testing.T, what string, r *leb.Reader) {
	t.Helper()
	if n := r.Uint(math.MaxUint64); n != 0 {
		t.Errorf("%s: Uint tells %d", what, n)
	}
	if n := r.Int(); n != 0 {
		t.Errorf("%s: Int tells %d", what, n)
	}
	if s := r.Text(math.MaxInt); s != "" {
		t.Errorf("%s: Text tells %q", what, s)
	}
	if h := r.Hash(); h != (api.Hash{}) {
		t.Errorf("%s: Hash tells %x", what, h)
	}
}

// P2.4
func TestReaderTakesOff(t *testing.T) {
	hash := someHash()
	b := bytes.Join([][]byte{leb.Uint(300), leb.Int(-300), leb.Text("text"), hash[:], leb.Text(""), leb.Uint(math.MaxUint64), leb.Int(math.MinInt64), {9}}, nil)
	r := leb.Read(b)
	left := len(b)
	expectReader(t, "at the beginning", r, left, api.OK, api.ErrTail)
	for _, step := range []struct {
		what string
		size int
		ok   func() bool
	}{
		{"Uint", 2, func() bool { return r.Uint(300) == 300 }},
		{"Int", 2, func() bool { return r.Int() == -300 }},
		{"Text", 5, func() bool { return r.Text(4) == "text" }},
		{"Hash", 32, func() bool { return r.Hash() == hash }},
		{"empty Text", 1, func() bool { return r.Text(0) == "" }},
		{"greatest Uint", 10, func() bool { return r.Uint(math.MaxUint64) == math.MaxUint64 }},
		{"least Int", 10, func() bool { return r.Int() == math.MinInt64 }},
	} {
		if !step.ok() {
			t.Errorf("%s is not what was laid", step.what)
		}
		left -= step.size
		expectReader(t, "behind "+step.what, r, left, api.OK, api.ErrTail)
	}
	if r.Uint(9) != 9 {
		t.Error("the last Uint is not what was laid")
	}
	expectReader(t, "at the end", r, 0, api.OK, api.OK)
}

// P2.4: each call's errors; nothing is taken off, and the first error stays.
func TestReaderErrors(t *testing.T) {
	askUint := func(most uint64) func(*leb.Reader) bool {
		return func(r *leb.Reader) bool { return r.Uint(most) == 0 }
	}
	askInt := func(r *leb.Reader) bool { return r.Int() == 0 }
	askText := func(most int) func(*leb.Reader) bool {
		return func(r *leb.Reader) bool { return r.Text(most) == "" }
	}
	askHash := func(r *leb.Reader) bool { return r.Hash() == api.Hash{} }
	for what, x := range map[string]struct {
		b    string
		read func(*leb.Reader) bool
		e    api.Errno
	}{
		"Uint of nothing":         {"", askUint(9), api.ErrCut},
		"Uint that is cut":        {"\x85", askUint(9), api.ErrCut},
		"Uint of too many groups": {"\x85\x00", askUint(9), api.ErrForm},
		"Uint above most":         {"\x05\x05", askUint(4), api.ErrLong},
		"Uint above 0":            {"\x01", askUint(0), api.ErrLong},
		"greatest Uint":           {string(leb.Uint(math.MaxUint64)), askUint(math.MaxUint64 - 1), api.ErrLong},
		"Uint cut, most 0":        {"\x85", askUint(0), api.ErrCut},
		"Uint of no form, most 0": {"\x85\x00", askUint(0), api.ErrForm},
		"Int of nothing":          {"", askInt, api.ErrCut},
		"Int that is cut":         {"\xff", askInt, api.ErrCut},
		"Int of too many groups":  {"\xff\x7f", askInt, api.ErrForm},
		"Int of ten groups":       {strings.Repeat("\xff", 9) + "\x01", askInt, api.ErrForm},
		"Text of nothing":         {"", askText(9), api.ErrCut},
		"Text of no form":         {"\x80\x00", askText(9), api.ErrForm},
		"Text above most":         {"\x03abc", askText(2), api.ErrLong},
		"Text of a most below 0":  {"\x00", askText(-1), api.ErrLong},
		"Text that is cut":        {"\x03ab", askText(3), api.ErrCut},
		"Hash of nothing":         {"", askHash, api.ErrCut},
		"Hash of 31 bytes":        {strings.Repeat("h", 31), askHash, api.ErrCut},
	} {
		r := leb.Read([]byte("\x07" + x.b))
		r.Uint(7)
		if !x.read(r) {
			t.Errorf("%s: something is told", what)
		}
		expectReader(t, what, r, len(x.b), x.e, x.e)
		expectNothing(t, what, r)
		expectReader(t, what+", later", r, len(x.b), x.e, x.e)
	}
}

// P2.4: behind an error nothing is told, though bytes that could be taken off are there.
func TestReaderFirstErrorStays(t *testing.T) {
	b := append(leb.Uint(5), bytes.Repeat([]byte{1}, 40)...)
	r := leb.Read(b)
	r.Uint(4)
	expectNothing(t, "behind ErrLong", r)
	expectReader(t, "behind ErrLong", r, len(b), api.ErrLong, api.ErrLong)
	r = leb.Read(b[:3])
	r.Hash()
	expectNothing(t, "behind ErrCut", r)
	if r.Text(-1) != "" || r.Uint(0) != 0 {
		t.Error("behind ErrCut: something is told")
	}
	expectReader(t, "behind ErrCut", r, 3, api.ErrCut, api.ErrCut)
}

// P2.4: that bytes are still there is no error of the reader: reading goes on.
func TestReaderDoneIsNoEnd(t *testing.T) {
	r := leb.Read([]byte("\x01\x02"))
	if r.Uint(1) != 1 || r.Done() != api.ErrTail || r.Uint(2) != 2 || r.Done() != api.OK {
		t.Error("Done hinders reading")
	}
	expectNothing(t, "behind the end", r)
	expectReader(t, "behind the end", r, 0, api.ErrCut, api.ErrCut)
}

// P2.4: a hash needs its own bytes, and none behind them.
func TestReaderHashAtTheEnd(t *testing.T) {
	hash := someHash()
	r := leb.Read(hash[:])
	if r.Hash() != hash {
		t.Error("32 bytes are not told as a hash")
	}
	expectReader(t, "behind a hash", r, 0, api.OK, api.OK)
}

// P2.4
func TestReaderOfNothing(t *testing.T) {
	expectReader(t, "of nil", leb.Read(nil), 0, api.OK, api.OK)
	expectReader(t, "of an empty list", leb.Read([]byte{}), 0, api.OK, api.OK)
}

// P2.4, P2.5: what a reader takes off is what Get takes off.
func TestReaderLikeGet(t *testing.T) {
	spread(func(n uint64) {
		r := leb.Read(append(leb.Uint(n), leb.Int(int64(n))...))
		if r.Uint(n) != n || r.Int() != int64(n) || r.Done() != api.OK {
			t.Errorf("%d is not taken off", n)
		}
	})
}

// Rule 1
func TestNilReader(t *testing.T) {
	var r *leb.Reader
	expectNothing(t, "nil", r)
	r.Uint(0)
	r.Text(-1)
	expectReader(t, "nil", r, 0, api.OK, api.OK)
}

// Rule 3: what is handed in is not changed, and writing to it later changes no reader.
func TestArgumentsAreNotKept(t *testing.T) {
	hash := someHash()
	b := append(leb.Text("text"), hash[:]...)
	b = append(b, leb.Uint(300)...)
	before := bytes.Clone(b)
	leb.GetUint(b)
	leb.GetInt(b)
	s, _, _ := leb.GetText(b, 9)
	r, other := leb.Read(b), leb.Read(b)
	if r.Text(9) != "text" || r.Hash() != hash || r.Uint(300) != 300 || !bytes.Equal(b, before) {
		t.Error("reading changed the bytes")
	}
	for i := range b {
		b[i] = 0xff
	}
	if s != "text" || other.Text(9) != "text" || other.Hash() != hash || other.Uint(300) != 300 {
		t.Error("writing to the bytes changed what was taken off them")
	}
}
