package rga_test

import (
	"fmt"
	"math"
	"testing"

	"stemma/api"
	"stemma/rga"
)

// id tells the id of a number, by nobody: its By is all noughts.
func id(n int) rga.Id { return rga.Id{Ctr: n} }

// by tells the id of a number, by the hash that begins with these bytes.
func by(n int, head ...byte) rga.Id {
	var h api.Hash
	copy(h[:], head)
	return rga.Id{Ctr: n, By: h}
}

// expectErr asks that a call answered this error.
func expectErr(t *testing.T, what string, got, want api.Errno) {
	t.Helper()
	if got != want {
		t.Errorf("%s = %d, want %d", what, int(got), int(want))
	}
}

// insert puts a cell, which must be taken.
func insert(t *testing.T, r *rga.Row, after, id rga.Id, char byte) {
	t.Helper()
	if e := r.Insert(after, id, char); e != api.OK {
		t.Fatalf("Insert(%s, %s, %q) = %d", short(after), short(id), char, int(e))
	}
}

// remove lets a cell be gone, which must be there.
func remove(t *testing.T, r *rga.Row, id rga.Id) {
	t.Helper()
	if e := r.Remove(id); e != api.OK {
		t.Fatalf("Remove(%s) = %d", short(id), int(e))
	}
}

// short tells an id in few letters.
func short(id rga.Id) string { return fmt.Sprintf("%d.%x", id.Ctr, id.By[:2]) }

// told tells all that a row's looks tell.
func told(r *rga.Row) string {
	s := fmt.Sprintf("%v %q %d", r.Cells(), r.Text(), r.Len())
	for pos := -1; pos <= r.Len(); pos++ {
		at, there := r.At(pos)
		s += fmt.Sprint(" ", at, there)
	}
	return s
}

// expectRow asks that a row has these cells, in this order, and that all looks tell the same of it.
func expectRow(t *testing.T, r *rga.Row, want ...rga.Cell) {
	t.Helper()
	cells := r.Cells()
	if len(cells) != len(want) {
		t.Fatalf("Cells = %v, want %v", cells, want)
	}
	var text []byte
	var left []rga.Id
	for i, c := range want {
		if cells[i] != c {
			t.Fatalf("Cells = %v, want %v", cells, want)
		}
		if !c.Gone {
			text, left = append(text, c.Char), append(left, c.Id)
		}
	}
	if got := r.Text(); string(got) != string(text) {
		t.Fatalf("Text = %q, want %q", got, text)
	}
	if r.Len() != len(left) {
		t.Fatalf("Len = %d, want %d", r.Len(), len(left))
	}
	for pos, want := range left {
		if at, there := r.At(pos); at != want || !there {
			t.Fatalf("At(%d) = %s, %v, want %s", pos, short(at), there, short(want))
		}
	}
	for _, pos := range []int{-1, math.MinInt, len(left), len(left) + 1, len(want) + 1, math.MaxInt} {
		if at, there := r.At(pos); at != (rga.Id{}) || there {
			t.Fatalf("At(%d) of %d = %s, %v", pos, len(left), short(at), there)
		}
	}
}

// Less goes by the numbers, then by the hashes.
func TestLess(t *testing.T) {
	last := by(3)
	last.By[31] = 1
	rising := []rga.Id{
		by(math.MinInt, 0xff), by(-1, 2), {}, by(0, 1), by(1), by(1, 0, 1), by(1, 1), by(1, 0x7f), by(1, 0x80), by(1, 0xff),
		by(2), by(2, 0xff), by(3), last, by(3, 0, 0, 1), by(1 << 32), by(math.MaxInt), by(math.MaxInt, 1),
	}
	for i, a := range rising {
		for j, b := range rising {
			if got := rga.Less(a, b); got != (i < j) {
				t.Errorf("Less(%v, %v) = %v", a, b, got)
			}
		}
	}
}

// Example 1.
func TestExampleOne(t *testing.T) {
	r := rga.New()
	insert(t, r, id(0), id(1), 'a')
	insert(t, r, id(1), id(2), 'b')
	insert(t, r, id(1), id(3), 'c')
	expectRow(t, r, rga.Cell{Id: id(1), Char: 'a'}, rga.Cell{Id: id(3), Char: 'c'}, rga.Cell{Id: id(2), Char: 'b'})
	if got := string(r.Text()); got != "acb" {
		t.Errorf("Text = %q", got)
	}
	remove(t, r, id(3))
	if got := string(r.Text()); got != "ab" {
		t.Errorf("Text = %q", got)
	}
	if at, there := r.At(1); at != id(2) || !there {
		t.Errorf("At(1) = %v, %v", at, there)
	}
	insert(t, r, id(3), id(4), 'd')
	if got := string(r.Text()); got != "adb" {
		t.Errorf("Text = %q", got)
	}
	expectRow(t, r, rga.Cell{Id: id(1), Char: 'a'}, rga.Cell{Id: id(3), Char: 'c', Gone: true}, rga.Cell{Id: id(4), Char: 'd'}, rga.Cell{Id: id(2), Char: 'b'})
}

// Example 2.
func TestExampleTwo(t *testing.T) {
	r := rga.New()
	expectErr(t, "Insert(zero, 0)", r.Insert(rga.Id{}, id(0), 'a'), api.ErrArg)
	expectErr(t, "Insert(5, 6)", r.Insert(id(5), id(6), 'a'), api.ErrNone)
	expectErr(t, "Insert(2, 2)", r.Insert(id(2), id(2), 'a'), api.ErrArg)
	expectRow(t, r)
}

// P11.1: each of Insert's errors, and which comes first where several apply; none of them changes anything.
func TestInsertErrors(t *testing.T) {
	r := rga.New()
	insert(t, r, rga.Id{}, by(3, 1), 'a')
	insert(t, r, by(3, 1), by(5, 1), 'b')
	remove(t, r, by(5, 1))
	want := told(r)
	for _, c := range []struct {
		after, id rga.Id
		want      api.Errno
	}{
		{rga.Id{}, rga.Id{}, api.ErrArg},
		{rga.Id{}, by(0, 1), api.ErrArg},
		{rga.Id{}, by(-1, 1), api.ErrArg},
		{rga.Id{}, id(math.MinInt), api.ErrArg},
		{by(-2), by(-1), api.ErrArg},                   // above the other one, but below 1
		{by(-1), by(0, 1), api.ErrArg},                 // likewise
		{by(3, 1), by(3, 2), api.ErrArg},               // the same number, by a greater hash
		{by(3, 1), by(2, 2), api.ErrArg},               // a lesser number
		{by(3, 1), by(3, 1), api.ErrArg},               // ahead of ErrThere
		{by(5, 1), by(3, 1), api.ErrArg},               // likewise
		{by(9, 1), by(9, 1), api.ErrArg},               // ahead of ErrNone
		{by(math.MaxInt), by(math.MaxInt), api.ErrArg}, // likewise
		{by(9, 1), by(5, 1), api.ErrArg},               // ahead of both
		{by(math.MaxInt, 1), by(1), api.ErrArg},        // ahead of ErrNone
		{rga.Id{}, by(3, 1), api.ErrThere},             //
		{rga.Id{}, by(5, 1), api.ErrThere},             // one that is gone is there
		{by(3, 1), by(5, 1), api.ErrThere},             //
		{by(4, 1), by(5, 1), api.ErrThere},             // ahead of ErrNone
		{by(0, 1), by(3, 1), api.ErrThere},             // likewise
		{by(math.MinInt), by(3, 1), api.ErrThere},      // likewise
		{by(3, 2), by(6, 1), api.ErrNone},              // the number alone is no cell's id
		{by(4, 1), by(6, 1), api.ErrNone},              // nor the hash alone
		{by(3), by(6, 1), api.ErrNone},                 //
		{by(0, 1), by(6, 1), api.ErrNone},              // a number of 0 alone is not the zero Id
		{by(-1), by(6, 1), api.ErrNone},                // nor a hash of noughts alone
		{by(math.MinInt, 1), by(6, 1), api.ErrNone},    //
		{by(0, 0, 0, 1), by(1), api.ErrNone},           //
		{by(math.MaxInt - 1), by(math.MaxInt), api.ErrNone},
	} {
		what := "Insert(" + short(c.after) + ", " + short(c.id) + ")"
		expectErr(t, what, r.Insert(c.after, c.id, 'x'), c.want)
		if told(r) != want {
			t.Fatalf("%s changed the row", what)
		}
	}
	insert(t, r, by(5, 1), by(6, 1), 'c') // one that was named in vain may come
	insert(t, r, by(6, 1), by(math.MaxInt), 'd')
}

// P11.1: ids with the same number, or the same hash, are not the same; numbers may be as great as they go.
func TestInsertTakesUnlikeIds(t *testing.T) {
	r := rga.New()
	far := by(1)
	far.By[31] = 1
	ids := []rga.Id{by(1), far, by(1, 0, 1), by(1, 1), by(2), by(2, 1), by(1 << 32), by(1<<32 + 1), by(math.MaxInt), by(math.MaxInt, 1)} // rising
	var want []rga.Cell
	for i, one := range ids {
		insert(t, r, rga.Id{}, one, byte(i))
		want = append([]rga.Cell{{Id: one, Char: byte(i)}}, want...)
		expectRow(t, r, want...)
	}
	for _, one := range ids {
		expectErr(t, "Insert of "+short(one)+" again", r.Insert(rga.Id{}, one, 'x'), api.ErrThere)
	}
	expectRow(t, r, want...)
}

// P11.1: every byte may be a character.
func TestEveryChar(t *testing.T) {
	r := rga.New()
	var want []rga.Cell
	for i := range 256 {
		insert(t, r, id(i), id(i+1), byte(i))
		want = append(want, rga.Cell{Id: id(i + 1), Char: byte(i)})
	}
	expectRow(t, r, want...)
}

// P11.1: Remove takes the one cell, again too, and none that is not there.
func TestRemove(t *testing.T) {
	r := rga.New()
	expectErr(t, "Remove(zero) of nothing", r.Remove(rga.Id{}), api.ErrNone)
	insert(t, r, rga.Id{}, by(1, 1), 'a')
	insert(t, r, by(1, 1), by(2, 1), 'b')
	insert(t, r, by(2, 1), by(3, 1), 'c')
	want := told(r)
	for _, none := range []rga.Id{{}, by(1), by(2), by(1, 2), by(4, 1), by(0, 1), by(-1, 1), by(math.MinInt), by(math.MaxInt)} {
		expectErr(t, "Remove("+short(none)+")", r.Remove(none), api.ErrNone)
	}
	if told(r) != want {
		t.Fatal("a Remove that was refused changed the row")
	}
	a, b, c := rga.Cell{Id: by(1, 1), Char: 'a'}, rga.Cell{Id: by(2, 1), Char: 'b'}, rga.Cell{Id: by(3, 1), Char: 'c'}
	for range 2 {
		remove(t, r, b.Id)
		b.Gone = true
		expectRow(t, r, a, b, c)
	}
	remove(t, r, c.Id)
	c.Gone = true
	expectRow(t, r, a, b, c)
	remove(t, r, a.Id)
	a.Gone = true
	expectRow(t, r, a, b, c)
	insert(t, r, rga.Id{}, by(1, 2), 'd')
	expectRow(t, r, rga.Cell{Id: by(1, 2), Char: 'd'}, a, b, c)
}

// Rule 1: a nil row refuses what can be refused, and tells nothing.
func TestNil(t *testing.T) {
	var r *rga.Row
	for _, one := range []rga.Id{{}, id(1), by(-1, 1)} {
		expectErr(t, "Insert", r.Insert(rga.Id{}, one, 'a'), api.ErrNil)
		expectErr(t, "Insert", r.Insert(one, one, 'a'), api.ErrNil)
		expectErr(t, "Remove", r.Remove(one), api.ErrNil)
	}
	if r.Cells() != nil || r.Text() != nil || r.Len() != 0 || r.Fork() != nil {
		t.Error("a nil row tells something")
	}
	for _, pos := range []int{-1, 0, 1, math.MaxInt} {
		if at, there := r.At(pos); at != (rga.Id{}) || there {
			t.Errorf("At(%d) = %v, %v", pos, at, there)
		}
	}
}

// P11.2: a new row, and one of which all is gone.
func TestNothing(t *testing.T) {
	r := rga.New()
	if r == nil {
		t.Fatal("New is nil")
	}
	expectRow(t, r)
	insert(t, r, rga.Id{}, id(1), 'a')
	remove(t, r, id(1))
	expectRow(t, r, rga.Cell{Id: id(1), Char: 'a', Gone: true})
}

// The row's order: two write beside one another, each from the same cell on; each one's whole stays whole.
func TestTwoWriteAtOnce(t *testing.T) {
	r := rga.New()
	insert(t, r, rga.Id{}, by(1, 9), '(')
	insert(t, r, by(1, 9), by(2, 9), ')')
	word := func(after rga.Id, start int, who byte, text string) {
		for k := range len(text) {
			insert(t, r, after, by(start+k, who), text[k])
			after = by(start+k, who)
		}
	}
	word(by(1, 9), 3, 1, "ann")
	word(by(1, 9), 3, 2, "bob") // the greater hash is ahead
	if got := string(r.Text()); got != "(bobann)" {
		t.Fatalf("Text = %q", got)
	}
	word(by(4, 1), 6, 2, "XY")  // within ann's, ahead of her last
	word(by(1, 9), 4, 4, "eve") // a greater number: ahead of both
	word(rga.Id{}, 1, 3, "lo")  // the same number as the first, a lesser hash: behind all that is below it
	word(rga.Id{}, 1, 8, "-")   // a hash between these two
	if got := string(r.Text()); got != "(evebobanXYn)-lo" {
		t.Fatalf("Text = %q", got)
	}
}
