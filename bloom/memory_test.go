package bloom_test

import (
	"bytes"
	"slices"
	"testing"

	"stemma/api"
	"stemma/bloom"
)

// spoil writes to a list and its spare room.
func spoil[T any](l []T, with T) {
	l = l[:cap(l)]
	for i := range l {
		l[i] = with
	}
}

// Rules 3 and 4: the list is not changed, and a filter, with its spare room, is new memory.
func TestMakeIsNewMemory(t *testing.T) {
	all := []api.Hash{{3}, {1}, {3}, {2}, {0xa0}, {0xb0}}
	for _, n := range []int{0, 1, 4} {
		l := slices.Clone(all)[:n] // with spare room, in which hashes stand that must stay there
		got := bloom.Make(l, 7, 10)
		want := slices.Clone(got)
		if !slices.Equal(l[:len(all)], all) {
			t.Errorf("Make of %d hashes changes them, or what is behind", n)
		}
		spoil(bloom.Make(l, 7, 10), 0xee)
		spoil(l, api.Hash{0xdd})
		if !bytes.Equal(got, want) {
			t.Errorf("Make's answer is %x behind all else is spoilt, and was %x", got, want)
		}
		if again := bloom.Make(all[:n], 7, 10); !bytes.Equal(again, want) {
			t.Errorf("Make answers %x behind all else is spoilt, and answered %x", again, want)
		}
	}
}

// Rule 3: the calls that only look change nothing, in the bytes and behind them.
func TestLooksChangeNothing(t *testing.T) {
	for _, whole := range [][]byte{
		append(bloom.Make([]api.Hash{{1}, {2}}, 300, 10), 0xa0, 0xb0),
		append(bloom.Make(nil, 300, 10), 0xa0, 0xb0),
		[]byte("\x80\x00\x05\x06\x07\x08"),
	} {
		was := slices.Clone(whole)
		b := whole[: len(whole)-2 : len(whole)]
		for range 2 {
			bloom.Check(b)
			bloom.Has(b, api.Hash{1})
			bloom.Has(b, api.Hash{9})
			bloom.Many(b)
		}
		if !bytes.Equal(whole, was) {
			t.Errorf("looks changed %x to %x", was, whole)
		}
	}
}

// Rule 4: what is asked ahead plays no part.
func TestAnswersHangOnArgumentsAlone(t *testing.T) {
	one, other := bloom.Make([]api.Hash{{1}}, 0, 64), bloom.Make([]api.Hash{{2}}, 0, 64)
	for range 3 {
		if !bloom.Has(one, api.Hash{1}) || bloom.Has(other, api.Hash{1}) || bloom.Has(one, api.Hash{2}) || !bloom.Has(other, api.Hash{2}) {
			t.Error("two filters have something in common")
		}
		if bloom.Has(nil, api.Hash{1}) || bloom.Many(nil) != 0 || bloom.Check(nil) != api.ErrForm {
			t.Error("no bytes are a filter")
		}
	}
}
