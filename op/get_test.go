package op_test

import (
	"slices"
	"strings"
	"testing"

	"stemma/api"
	"stemma/op"
)

func expectGet(t *testing.T, b string, want []api.Op) {
	t.Helper()
	if l, e := op.Get([]byte(b)); e != api.OK || !slices.Equal(l, want) {
		t.Errorf("Get(%.80x) = %.200v, %d; want %.200v", b, l, int(e), want)
	}
}

func expectForm(t *testing.T, what, b string) {
	t.Helper()
	if l, e := op.Get([]byte(b)); e != api.ErrForm || len(l) != 0 {
		t.Errorf("%s: Get(%.80x) = %.200v, %d; want %d", what, b, l, int(e), int(api.ErrForm))
	}
}

// P7.4
func TestGet(t *testing.T) {
	for _, s := range samples() {
		expectGet(t, s.laid(), s.ops)
	}
	expectForm(t, "an example", "\x00")
	expectForm(t, "nothing", "")
	if l, e := op.Get(nil); e != api.ErrForm || len(l) != 0 {
		t.Errorf("Get(nil) = %v, %d", l, int(e))
	}
}

// P7.4: bytes that end too early, wherever, and bytes behind the end.
func TestGetCutAndTail(t *testing.T) {
	for _, s := range samples() {
		whole := s.laid()
		step := len(whole)/1000 + 1 // the longest of all would take long at each of its bytes
		for n := 0; n < len(whole); n += step {
			expectForm(t, "cut off", whole[:n])
		}
		expectForm(t, "cut off by one byte", whole[:len(whole)-1])
		for tail := range 256 {
			expectForm(t, "with a tail", whole+string([]byte{byte(tail)}))
		}
		expectForm(t, "twice", whole+whole)
	}
}

// P7.4: one part is another than Put lays, all others are as they were.
func TestGetOfWrongParts(t *testing.T) {
	put := []string{"\x01\x01\x01", "\x01\x01k", "\x01\x01\x00", "\x01\x01\x00", "\x01\x01\x00", "\x01v"}
	two := []string{"\x01\x02\x02", "\x02\x01a\x01b", "\x02\x01\x00\x01\x01", "\x01\x02\x00", "\x01\x02\x00", ""}
	expectGet(t, strings.Join(put, ""), []api.Op{{Kind: api.OpPut, Name: "k", Text: "v"}})
	expectGet(t, strings.Join(two, ""), []api.Op{{Kind: api.OpDel, Name: "a"}, {Kind: api.OpDel, Name: "b"}})
	greatest := strings.Repeat("\xff", 9) + "\x01"
	for _, x := range []struct {
		good []string
		part int
		bad  []string
	}{
		{put, 0, []string{"\x00", "\x01\x01\x00", "\x01\x01\x02", "\x01\x01\x03", "\x01\x01\x05", "\x01\x01\x06", "\x01\x01\x7f", "\x01\x02\x01", "\x01\x00\x01", "\x01\x81\x00\x01", "\x81\x00\x01\x01", "\x01\x01\x81\x00",
			"\x01\x01\x81\x80\x80\x80\x10", "\x02\x01\x01", greatest, "\x01" + greatest + "\x01", "\x01\x01" + strings.Repeat("\xff", 10)}},
		{put, 1, []string{"\x00", "\x01\x00", "\x01\x01-", "\x01\x01 ", "\x02\x01k\x01k", "\x02\x01k\x01l", "\x02\x01l\x01k", "\x81\x00\x01k", "\x01\x81\x00k", "\x01\x21" + strings.Repeat("k", 33), "\x80\x02\x01k", "\x81\x02\x01k", greatest + "\x01k", "\x01" + greatest + "k"}},
		{put, 2, []string{"\x00", "\x01\x01\x01", "\x01\x01\x7f", "\x01\x02\x00", "\x02\x01\x00\x01\x00", "\x01\x01\x80\x00", "\x01\x00\x00", "\x01\x01\x80\x80\x80\x80\x10"}},
		{put, 3, []string{"\x00", "\x01\x01\x01", "\x01\x01\x7f", "\x01\x02\x00", "\x01\x01\x80\x00"}},
		{put, 4, []string{"\x00", "\x01\x01\x01", "\x01\x01\x7f", "\x01\x02\x00", "\x01\x01\x80\x00"}},
		{put, 5, []string{"", "\x00v", "\x02v", "\x81\x00v", "\x01v\x01v", "\x81\x08" + strings.Repeat("x", 1025), greatest + "v"}},
		{two, 0, []string{"\x02\x01\x02\x01\x02", "\x01\x01\x02", "\x01\x03\x02"}},
		{two, 1, []string{"\x01\x01a", "\x02\x01a\x01a", "\x03\x01a\x01b\x01c"}},
		{two, 2, []string{"\x02\x01\x01\x01\x00", "\x01\x02\x00", "\x01\x02\x01", "\x02\x01\x00\x01\x02", "\x02\x01\x00\x02\x01", "\x01\x01\x00"}},
		{two, 3, []string{"\x02\x01\x00\x01\x00", "\x02\x01\x00\x01\x01", "\x02\x01\x01\x01\x7f", "\x01\x01\x00", "\x01\x03\x00"}},
		{two, 4, []string{"\x02\x01\x00\x01\x00", "\x02\x01\x00\x01\x01", "\x01\x01\x00", "\x01\x03\x00"}},
		{two, 5, []string{"\x00", "\x00\x00", "\x01v\x01v"}},
	} {
		for _, bad := range x.bad {
			parts := slices.Clone(x.good)
			parts[x.part] = bad
			expectForm(t, "a wrong part", strings.Join(parts, ""))
		}
	}
}

// P7.4: what is laid as Put lays it, but of operations that may not be.
func TestGetOfWhatMayNotBe(t *testing.T) {
	one, nought := "\x01\x01a\x01\x01\x00", "\x01\x01\x00"
	long := strings.Repeat("x", 1025)
	for what, b := range map[string]string{
		"a put with a place":         "\x01\x01\x01" + one + "\x01\x01\x03" + nought + "\x01v",
		"a put with a By":            "\x01\x01\x01" + one + nought + "\x01\x01\x03" + "\x01v",
		"a long put":                 "\x01\x01\x01" + one + nought + nought + "\x81\x08" + long,
		"a del with a place":         "\x01\x01\x02" + one + "\x01\x01\x03" + nought,
		"a del with a By":            "\x01\x01\x02" + one + nought + "\x01\x01\x03",
		"a del with a text":          "\x01\x01\x02" + one + nought + nought + "\x01v",
		"an add with a place":        "\x01\x01\x03" + one + "\x01\x01\x03" + nought,
		"an add of 2^31 + 1":         "\x01\x01\x03" + one + nought + "\x01\x01\x81\x80\x80\x80\x08",
		"an add of -2^31 - 1":        "\x01\x01\x03" + one + nought + "\x01\x01\xff\xff\xff\xff\x77",
		"an ins without a text":      "\x01\x01\x04" + one + nought + nought + "\x00",
		"a long ins":                 "\x01\x01\x04" + one + nought + nought + "\x81\x08" + long,
		"an ins with a By":           "\x01\x01\x04" + one + nought + "\x01\x01\x01" + "\x01v",
		"an ins at -1":               "\x01\x01\x04" + one + "\x01\x01\x7f" + nought + "\x01v",
		"an ins at 2^40 + 1":         "\x01\x01\x04" + one + "\x01\x01\x81\x80\x80\x80\x80\x20" + nought + "\x01v",
		"a cut of none":              "\x01\x01\x05" + one + nought + nought,
		"a cut of 1025":              "\x01\x01\x05" + one + nought + "\x01\x01\x81\x08",
		"a cut at -1":                "\x01\x01\x05" + one + "\x01\x01\x7f" + "\x01\x01\x01",
		"a cut at 2^40 + 1":          "\x01\x01\x05" + one + "\x01\x01\x81\x80\x80\x80\x80\x20" + "\x01\x01\x01",
		"a kind of none":             "\x01\x01\x00" + one + nought + nought,
		"another kind":               "\x01\x01\x06" + one + nought + nought,
		"a name that is none":        "\x01\x01\x02" + "\x01\x01-\x01\x01\x00" + nought + nought,
		"places that go around":      "\x01\x03\x02" + "\x01\x01a\x01\x03\x00" + "\x03\x01\x80\x80\x80\x80\x80\x80\x80\x80\x80\x7f\x01\x7f\x01\x00" + "\x01\x03\x00",
		"257 operations":             "\x01\x81\x02\x02" + "\x01\x01a" + "\x01\x81\x02\x00" + "\x01\x81\x02\x00" + "\x01\x81\x02\x00",
		"257 by two runs":            "\x02\x80\x02\x02\x01\x03" + "\x01\x01a" + "\x01\x81\x02\x00" + "\x01\x81\x02\x00" + "\x01\x81\x02\x00",
		"as many as a column may be": "\x01\x80\x80\x04\x02" + "\x01\x01a" + "\x01\x80\x80\x04\x00" + "\x01\x80\x80\x04\x00" + "\x01\x80\x80\x04\x00",
		"a name without operations":  "\x00\x01\x01a\x00\x00\x00",
	} {
		expectForm(t, what, b)
	}
}

// P7.4: a place may be told by any difference that leads to it, but the numbers between must be places.
func TestGetOfDifferencesThatGoAround(t *testing.T) {
	head := "\x01\x02\x05\x01\x01t\x01\x02\x00"
	bys := "\x01\x02\x01"
	expectGet(t, head+"\x02\x01\x80\x80\x80\x80\x80\x20\x01\x80\x80\x80\x80\x80\x60"+bys, []api.Op{{Kind: api.OpCut, Name: "t", Pos: 1 << 40, By: 1}, {Kind: api.OpCut, Name: "t", By: 1}})
	expectForm(t, "2^40 twice", head+"\x01\x02\x80\x80\x80\x80\x80\x20"+bys)
	expectForm(t, "-1, then 0", head+"\x02\x01\x7f\x01\x01"+bys)
}
