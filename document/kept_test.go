package document

import (
	"strconv"
	"strings"
	"testing"

	"stemma/api"
)

// expectKept asks that what is held on to is so many checkouts, and weighs what is noted, no more than may be but for
// one alone.
func expectKept(t *testing.T, d *Document, many int) {
	t.Helper()
	weight := 0
	for text, doc := range d.told {
		weight += weigh(text, doc)
	}
	if len(d.told) != many || d.weight != weight || weight > mostKept && many > 1 {
		t.Errorf("%d checkouts are kept, of weight %d, noted as %d; want %d", len(d.told), weight, d.weight, many)
	}
}

// made makes a document, and tells its changes: one, and two upon it beside one another.
func made(t *testing.T) (d *Document, a, b, c api.Hash) {
	t.Helper()
	d = New()
	commit := func(branch, value string) api.Hash {
		h, e := d.Commit(branch, "ann", "", []api.Op{{Kind: api.OpPut, Name: "k", Text: value}})
		if e != api.OK {
			t.Fatalf("Commit = %d", int(e))
		}
		return h
	}
	a = commit("main", "a")
	d.Create("b", "main")
	return d, a, commit("main", "b"), commit("b", "c")
}

// Ways: what was checked out stands in a map by its heads' text: once for all lists of heads that have the same past.
func TestKeptByHeads(t *testing.T) {
	d, a, b, c := made(t)
	expectKept(t, d, 0)
	for _, heads := range [][]api.Hash{{b, c}, {c, b}, {b, c, b}, {a, c, b}} {
		d.Checkout(heads)
		expectKept(t, d, 1)
	}
	d.Checkout([]api.Hash{{}})
	d.Checkout([]api.Hash{b, {}})
	d.Read("x")
	expectKept(t, d, 1)
	for _, heads := range [][]api.Hash{nil, {}} {
		d.Checkout(heads)
		expectKept(t, d, 2)
	}
	d.Read("main")
	d.Checkout([]api.Hash{b})
	d.Checkout([]api.Hash{b, a})
	expectKept(t, d, 3)
	fork := d.Fork()
	expectKept(t, fork, 3)
	fork.Checkout([]api.Hash{a})
	expectKept(t, fork, 4)
	expectKept(t, d, 3)
}

// P16.6: what a checkout told once is told again without being worked out anew, by a fork, too.
func TestKeptIsTold(t *testing.T) {
	d, _, b, c := made(t)
	d.Checkout([]api.Hash{b, c})
	for text := range d.told {
		d.told[text] = api.Doc{Texts: []api.Text{{Name: "kept", Chars: "kept"}}}
	}
	for _, x := range []*Document{d, d.Fork()} {
		got, e := x.Checkout([]api.Hash{c, b})
		if e != api.OK || len(got.Texts) != 1 || got.Texts[0].Name != "kept" {
			t.Errorf("it is worked out anew: %v, %d", got, int(e))
		}
	}
}

// What is held on to has a bound, whatever is checked out.
func TestKeptHasABound(t *testing.T) {
	d := New()
	heavy := api.Doc{Texts: []api.Text{{Name: "t", Chars: strings.Repeat("x", mostKept/5)}}}
	for i := range 20 {
		d.keep(strings.Repeat("h", i), heavy)
		expectKept(t, d, 1+i%4) // a fifth one would be too much with its name
	}
	d = New()
	for i := range 100000 {
		d.keep(strconv.Itoa(i), api.Doc{})
	}
	if many := len(d.told); many == 0 || many > mostKept/perThing {
		t.Errorf("%d checkouts of nothing are kept", many)
	}
	expectKept(t, d, len(d.told))
}

// One that is heavier than may be alone is kept until another one comes.
func TestKeptAlone(t *testing.T) {
	d, _, b, c := made(t)
	d.keep("heavy", api.Doc{Texts: []api.Text{{Chars: strings.Repeat("x", mostKept)}}})
	expectKept(t, d, 1)
	d.Checkout([]api.Hash{b})
	expectKept(t, d, 1)
	d.Checkout([]api.Hash{c})
	expectKept(t, d, 2)
	d.keep("heavy", api.Doc{Entries: []api.Entry{{Key: "k", Values: []string{strings.Repeat("x", mostKept)}}}})
	expectKept(t, d, 1)
	d.Checkout([]api.Hash{b})
	expectKept(t, d, 1)
}

// Each part of a checkout weighs: its heads, its names, its values and its characters.
func TestWeigh(t *testing.T) {
	least := weigh("", api.Doc{})
	for what, weight := range map[string]int{
		"heads":   weigh("12345", api.Doc{}) - 5,
		"a key":   weigh("", api.Doc{Entries: []api.Entry{{Key: "12345"}}}) - 5 - perThing,
		"a value": weigh("", api.Doc{Entries: []api.Entry{{Values: []string{"12345", "123"}}}}) - 8 - 3*perThing,
		"a count": weigh("", api.Doc{Counts: []api.Count{{Key: "12345"}}}) - 5 - perThing,
		"a text":  weigh("", api.Doc{Texts: []api.Text{{Name: "123", Chars: "12345"}}}) - 8 - perThing,
	} {
		if weight != least {
			t.Errorf("beside %s: %d, want %d", what, weight, least)
		}
	}
	if least <= 0 {
		t.Error("a checkout of nothing weighs nothing, so there may be any number of them")
	}
}
