package view_test

import (
	"slices"
	"strconv"
	"strings"
	"testing"

	"stemma/api"
	"stemma/dag"
	"stemma/view"
)

// many tells how many changes a long graph has here.
func many() int {
	if testing.Short() {
		return 300
	}
	return api.MaxChanges
}

// P12.1, P12.2: a line of as many changes as a graph has.
func TestLongLine(t *testing.T) {
	g, want := dag.New(), ""
	var heads []api.Hash
	for i := range many() {
		char := string([]byte{byte('a' + i%26)})
		pos := i * 7 % (len(want) + 1)
		heads = upon(write(t, g, "ann", heads, ins("t", pos, char), add("n", 1), put("k", strconv.Itoa(i)), cut("t", i%50, i%2+1), ins("t", 0, "_")))
		want = want[:pos] + char + want[pos:]
		want = "_" + want[:min(i%50, len(want))] + want[min(i%50+i%2+1, len(want)):]
	}
	last := strconv.Itoa(many() - 1)
	expectAt(t, g, heads, `k="`+last+`" n:`+strconv.Itoa(many())+" t"+strconv.Quote(want))
	expectHeld(t, g, heads, view.Held{Key: "k", Values: []string{last}, By: heads})
	rows, _ := view.Both(g, heads, nil)
	if len(rows) != 1 || len(rows[0].Chars) != 2*many() {
		t.Errorf("not all characters are told")
	}
}

// P12.1, P12.2: as many changes as a graph has, all beside one another.
func TestManyBeside(t *testing.T) {
	g := dag.New()
	sum := 0
	var values []string
	for i := range many() {
		write(t, g, "w"+strconv.Itoa(i), nil, put("k", strconv.Itoa(i)), add("n", i), ins("t", 3, "ab"), cut("t", 1, 1))
		sum += i
		values = append(values, strconv.Itoa(i))
	}
	d, e := view.At(g, g.Heads())
	if e != api.OK || len(d.Entries) != 1 || len(d.Counts) != 1 || len(d.Texts) != 1 {
		t.Fatalf("At: %d", int(e))
	}
	got := slices.Sorted(slices.Values(d.Entries[0].Values))
	slices.Sort(values)
	if !slices.Equal(got, values) || d.Counts[0].N != sum || d.Texts[0].Chars != strings.Repeat("a", many()) {
		t.Error("what all did is not there from all")
	}
	held, _ := view.Entries(g, g.Heads())
	if len(held) != 1 || !slices.Equal(held[0].By, g.Heads()) { // all have the same number, so the hashes tell the order
		t.Error("the values do not stand by their hashes")
	}
}

// P12.1: two who write beside one another for long, and meet now and then.
func TestLongBeside(t *testing.T) {
	g := dag.New()
	a, b := []api.Hash(nil), []api.Hash(nil)
	for i := range many() / 2 {
		if i%100 == 99 {
			a, _ = g.Reduce(slices.Concat(a, b))
			b = a
		}
		a = upon(write(t, g, "ann", a, ins("t", i%7, "A"), put("k", "a")))
		b = upon(write(t, g, "bob", b, ins("t", i%5, "B"), put("k", "b")))
	}
	heads := slices.Concat(a, b)
	d, e := view.At(g, heads)
	if e != api.OK || len(d.Texts) != 1 || len(d.Entries) != 1 || len(d.Entries[0].Values) != 2 {
		t.Fatalf("At says %.200s, %d", saying(d), int(e))
	}
	text := d.Texts[0].Chars
	if strings.Count(text, "A") != many()/2 || strings.Count(text, "B") != many()/2 || len(text) != many()/2*2 {
		t.Errorf("what was typed is not all there: %.200s", text)
	}
}

// P12.1: changes as long as they may be.
func TestLongChanges(t *testing.T) {
	g := dag.New()
	var ops []api.Op
	for i := range 60 {
		ops = append(ops, ins("t", i*512, strings.Repeat(string([]byte{byte('0' + i)}), api.MaxValue)))
	}
	for range api.MaxOps - 60 {
		ops = append(ops, cut("t", 100, 100))
	}
	h := write(t, g, "ann", nil, ops...)
	want := ""
	for i := range 60 {
		pos := min(i*512, len(want))
		want = want[:pos] + strings.Repeat(string([]byte{byte('0' + i)}), api.MaxValue) + want[pos:]
	}
	want = want[:100] + want[100+100*(api.MaxOps-60):]
	expectAt(t, g, upon(h), "t"+strconv.Quote(want))
}
