package blame_test

import (
	"slices"
	"strconv"
	"strings"
	"testing"

	"stemma/api"
	"stemma/blame"
	"stemma/dag"
)

// many tells how many changes a long graph has here.
func many() int {
	if testing.Short() {
		return 300
	}
	return api.MaxChanges
}

// P14.1, P14.2: a line of as many changes as a graph has.
func TestLongLine(t *testing.T) {
	g := dag.New()
	var heads, by []api.Hash
	held := make([]api.Hash, 7)
	for i := range many() {
		pos := i * 7 % (len(by) + 1)
		h := write(t, g, "w"+strconv.Itoa(i%3), heads, ins("t", pos, "xy"), put("k"+strconv.Itoa(i%7), "v"), cut("t", 0, i%2+1))
		by = slices.Insert(by, pos, h, h)[i%2+1:]
		held[i%7], heads = h, upon(h)
	}
	var want []api.Mark
	for i, h := range held {
		want = append(want, keys("k"+strconv.Itoa(i), h)...)
	}
	expectOf(t, g, heads, want, chars("t", by...))
	values, typed := 0, 0
	for i, s := range shares(t, g, heads) {
		if s.Author != "w"+strconv.Itoa(i) || s.Values == 0 || s.Chars == 0 {
			t.Errorf("%s %d %d", s.Author, s.Values, s.Chars)
		}
		values, typed = values+s.Values, typed+s.Chars
	}
	if values != len(held) || typed != len(by) {
		t.Errorf("%d values and %d characters, want %d and %d", values, typed, len(held), len(by))
	}
}

// P14.1, P14.2: as many authors as a graph has changes, all beside one another.
func TestManyBeside(t *testing.T) {
	g := dag.New()
	var want []blame.Share
	for i := range many() {
		author := "w" + strconv.Itoa(i)
		write(t, g, author, nil, put("k", "v"), ins("t", 0, strings.Repeat("x", 1+i%5)))
		want = append(want, blame.Share{Author: author, Values: 1, Chars: 1 + i%5})
	}
	slices.SortFunc(want, func(a, b blame.Share) int { return strings.Compare(a.Author, b.Author) })
	if got := shares(t, g, g.Heads()); !slices.Equal(got, want) {
		t.Errorf("%d shares, want %d, or others", len(got), len(want))
	}
	got := of(t, g, g.Heads())
	if len(got) < many() || !slices.Equal(got[:many()], keys("k", g.Heads()...)) { // all have the same number, so the hashes tell the order
		t.Error("the values are blamed on others")
	}
}

// P14.1, P14.2: changes as long as they may be.
func TestLongChanges(t *testing.T) {
	g := dag.New()
	var typed []api.Op
	for range 60 {
		typed = append(typed, ins("t", 0, strings.Repeat("x", api.MaxValue)))
	}
	a := write(t, g, "ann", nil, typed...)
	b := write(t, g, "bob", upon(a), typed...)
	n := 60 * api.MaxValue
	expectOf(t, g, upon(b), chars("t", slices.Concat(slices.Repeat(upon(b), n), slices.Repeat(upon(a), n))...))
	expectShares(t, g, upon(b), "ann 0/"+strconv.Itoa(n)+", bob 0/"+strconv.Itoa(n))
}
