package hashes_test

import (
	"bytes"
	"slices"
	"testing"

	"stemma/api"
	"stemma/hashes"
)

// spoil writes to a list and its spare room.
func spoil[T any](l []T, with T) {
	l = l[:cap(l)]
	for i := range l {
		l[i] = with
	}
}

// roomy tells a list with spare room behind it, in which hashes stand that must stay there.
func roomy(firsts ...byte) []api.Hash {
	l := short(append(firsts, 0xa0, 0xb0)...)
	return l[:len(firsts)]
}

// answers are the calls that answer lists.
func answers() map[string]func(a, b []api.Hash) []api.Hash {
	return map[string]func(a, b []api.Hash) []api.Hash{
		"Sort":  func(a, b []api.Hash) []api.Hash { return hashes.Sort(a) },
		"Union": hashes.Union,
		"Minus": hashes.Minus,
		"Meet":  hashes.Meet,
	}
}

// Rule 3: an argument is not changed, and an answer, with its spare room, is new memory.
func TestListsAreNewMemory(t *testing.T) {
	for _, x := range [][2][]byte{{{1, 2, 3}, {2, 3}}, {{3, 1, 3}, {1}}, {{1, 2}, nil}, {nil, {1, 2}}, {{1}, {1}}} {
		for what, f := range answers() {
			a, b := roomy(x[0]...), roomy(x[1]...)
			wholeA, wholeB := slices.Clone(a[:cap(a)]), slices.Clone(b[:cap(b)])
			got := f(a, b)
			first := slices.Clone(got)
			expectList(t, what+"'s first argument behind it", a[:cap(a)], wholeA)
			expectList(t, what+"'s second argument behind it", b[:cap(b)], wholeB)
			other := f(a, b)
			spoil(other, api.Hash{0xee})
			expectList(t, what+"'s answer behind another one is spoilt", got, first)
			expectList(t, what+"'s first argument behind the answer is spoilt", a[:cap(a)], wholeA)
			expectList(t, what+"'s second argument behind the answer is spoilt", b[:cap(b)], wholeB)
			spoil(a, api.Hash{0xdd})
			spoil(b, api.Hash{0xdd})
			expectList(t, what+"'s answer behind the arguments are spoilt", got, first)
		}
	}
}

// Rules 3 and 4: nothing that Put and Get answer is an argument's or another answer's.
func TestBytesAreNewMemory(t *testing.T) {
	l := roomy(1, 2)
	b := hashes.Put(l)
	want := slices.Clone(b)
	spoil(hashes.Put(l), 0xee)
	spoil(hashes.Put(nil), 0xee)
	got, _, _ := hashes.Get(b, 9)
	other, _, _ := hashes.Get(b, 9)
	spoil(other, api.Hash{0xee})
	spoil(l, api.Hash{0xdd})
	if !bytes.Equal(b, want) {
		t.Errorf("Put's answer is now %x", b)
	}
	spoil(b, 0xcc)
	expectList(t, "Get's answer behind all else is spoilt", got, short(1, 2))
	if again := hashes.Put(nil); !bytes.Equal(again, []byte{0}) {
		t.Errorf("Put(nil) is now %x", again)
	}
}

// Rule 3: the calls that only look change nothing.
func TestLooksChangeNothing(t *testing.T) {
	l := roomy(3, 1, 3)
	whole := slices.Clone(l[:cap(l)])
	hashes.Rising(l)
	hashes.Same(l, l)
	hashes.Has(l, api.Hash{1})
	hashes.Put(l)
	hashes.Text(l)
	expectList(t, "the list behind looks", l[:cap(l)], whole)
	b := hashes.Put(short(2, 1))
	laid := slices.Clone(b)
	hashes.Get(b, 9)
	hashes.Get(b, 1)
	if !bytes.Equal(b, laid) {
		t.Errorf("Get's bytes are now %x", b)
	}
}
