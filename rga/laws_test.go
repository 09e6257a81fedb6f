package rga_test

import (
	"slices"
	"testing"

	"stemma/api"
	"stemma/rga"
)

// rowOf tells a row into which these cells were put, and of which those are gone that are to be.
func rowOf(t *testing.T, p plain) *rga.Row {
	t.Helper()
	r := rga.New()
	for _, one := range p {
		insert(t, r, one.after, one.cell.Id, one.cell.Char)
		if one.cell.Gone {
			remove(t, r, one.cell.Id)
		}
	}
	return r
}

// ids tells the ids of cells.
func ids(l []rga.Cell) []rga.Id {
	var out []rga.Id
	for _, c := range l {
		out = append(out, c.Id)
	}
	return out
}

// P11.1, P11.2: rows of calls, right and wrong ones, held against the chapter told plainly.
func TestHeldAgainstPlain(t *testing.T) {
	rows := 200
	if testing.Short() {
		rows = 30
	}
	for seed := range rows {
		l := list(seed + 1)
		r, p := rga.New(), plain{}
		some := func() rga.Id { // few ids, so that they meet; the zero Id among them
			return by(l.below(12)-1, byte(l.below(2)))
		}
		for range 80 {
			if l.below(3) == 0 {
				one := some()
				expectErr(t, "Remove("+short(one)+")", r.Remove(one), p.remove(one))
			} else {
				after, one, char := some(), some(), byte(l.below(256))
				expectErr(t, "Insert("+short(after)+", "+short(one)+")", r.Insert(after, one, char), p.insert(after, one, char))
			}
			expectRow(t, r, p.cells()...)
		}
		if t.Failed() {
			t.Fatalf("row %d", seed)
		}
	}
}

// P11.2, P11.4: longer rows, of few and of many words, in any order.
func TestTreesHeldAgainstPlain(t *testing.T) {
	for seed := range 60 {
		l := list(seed + 1000)
		p := l.tree(120, 1+seed%10)
		for i := range p {
			p[i].cell.Gone = l.below(4) == 0
		}
		want := p.cells()
		for range 4 {
			expectRow(t, rowOf(t, l.shuffled(p)), want...)
		}
		if t.Failed() {
			t.Fatalf("row %d", seed)
		}
	}
}

// P11.4: small trees in all orders in which they can be put make the same row.
func TestAllOrders(t *testing.T) {
	many := 0
	for seed := range 100 {
		l := list(seed + 2000)
		p := l.tree(7, 1+seed%3)
		want := p.cells()
		p.orders(func(p plain) {
			many++
			expectRow(t, rowOf(t, p), want...)
		})
		if t.Failed() {
			t.Fatalf("row %d", seed)
		}
	}
	if many < 5000 {
		t.Errorf("%d orders", many)
	}
}

// P11.4: it plays no part when a cell went.
func TestWhenOneWentPlaysNoPart(t *testing.T) {
	for seed := range 20 {
		l := list(seed + 3000)
		p := l.tree(60, 4)
		for i := range p {
			p[i].cell.Gone = l.below(2) == 0
		}
		want := told(rowOf(t, p)) // each goes as soon as it has come
		r := rga.New()
		for _, one := range l.shuffled(p) {
			insert(t, r, one.after, one.cell.Id, one.cell.Char)
		}
		for _, one := range l.shuffled(p) {
			if one.cell.Gone {
				remove(t, r, one.cell.Id)
			}
		}
		if told(r) != want {
			t.Fatalf("row %d: %v, want %s", seed, r.Cells(), want)
		}
	}
}

// P11.4: a cell that is put never turns the order of others, one that goes neither.
func TestOrderNeverTurns(t *testing.T) {
	for seed := range 40 {
		l := list(seed + 4000)
		r := rga.New()
		for _, one := range l.shuffled(l.tree(60, 3)) {
			before := ids(r.Cells())
			insert(t, r, one.after, one.cell.Id, one.cell.Char)
			if l.below(3) == 0 {
				remove(t, r, one.cell.Id)
			}
			behind := slices.DeleteFunc(ids(r.Cells()), func(id rga.Id) bool { return id == one.cell.Id })
			if !slices.Equal(before, behind) {
				t.Fatalf("row %d: %v turned to %v", seed, before, behind)
			}
		}
	}
}

// P11.4: the one with the greatest id stands right behind the one behind which it was put.
func TestGreatestStandsRightBehind(t *testing.T) {
	for seed := range 40 {
		l := list(seed + 5000)
		r := rowOf(t, l.tree(50, 3))
		for k := range 20 {
			cells := r.Cells()
			i := l.below(len(cells) + 1) // behind so many
			var after rga.Id
			if i > 0 {
				after = cells[i-1].Id
			}
			greatest := by(1000 + k)
			insert(t, r, after, greatest, 'x')
			expectRow(t, r, slices.Insert(cells, i, rga.Cell{Id: greatest, Char: 'x'})...)
		}
	}
}

// P11.3: a fork is as its row was, and from then on neither does anything to the other.
func TestFork(t *testing.T) {
	for seed := range 40 {
		l := list(seed + 6000)
		p := l.tree(40, 3)
		r := rowOf(t, p)
		remove(t, r, p[3].cell.Id)
		fork := r.Fork()
		want := told(r)
		if told(fork) != want {
			t.Fatalf("row %d: the fork is %v, want %s", seed, fork.Cells(), want)
		}
		again := fork.Fork()
		for k := range 30 { // the same places in both, so that what they share would be seen
			after := p[l.below(len(p))].cell.Id
			insert(t, r, after, by(1000+2*k), 'R')
			insert(t, fork, after, by(1001+2*k), 'F')
			insert(t, r, rga.Id{}, by(2000+2*k), 'R')
			insert(t, fork, rga.Id{}, by(2001+2*k), 'F')
			remove(t, fork, p[l.below(len(p))].cell.Id)
		}
		if told(again) != want {
			t.Fatalf("row %d: what was done to a row and its fork changed another fork", seed)
		}
		expectErr(t, "Remove of what the fork alone has", r.Remove(by(1001)), api.ErrNone)
		expectErr(t, "Remove of what the row alone has", fork.Remove(by(1000)), api.ErrNone)
		for _, c := range r.Cells() {
			if c.Char == 'F' || c.Gone && c.Id != p[3].cell.Id {
				t.Fatalf("row %d: the fork's %v is in the row", seed, c)
			}
		}
		for _, c := range fork.Cells() {
			if c.Char == 'R' {
				t.Fatalf("row %d: the row's %v is in the fork", seed, c)
			}
		}
		if len(r.Cells()) != 100 || len(fork.Cells()) != 100 {
			t.Fatalf("row %d: %d and %d cells", seed, len(r.Cells()), len(fork.Cells()))
		}
	}
}

// P11.3: what comes to a row and to its fork makes the same of them, though the one got it in another order.
func TestForkGoesOn(t *testing.T) {
	for seed := range 20 {
		l := list(seed + 7000)
		p := l.tree(60, 3)
		r := rowOf(t, p[:30])
		fork := r.Fork()
		for _, one := range p[30:] {
			insert(t, r, one.after, one.cell.Id, one.cell.Char)
		}
		known := slices.Clone(p[:30])
		for _, one := range l.shuffled(p) {
			if known.find(one.cell.Id) < 0 {
				insert(t, fork, one.after, one.cell.Id, one.cell.Char)
			}
		}
		expectRow(t, fork, p.cells()...)
		expectRow(t, r, p.cells()...)
	}
}

// Rules 3 and 4: answers are new memory, with their spare room; two rows have nothing in common.
func TestAnswersAreNewMemory(t *testing.T) {
	l := list(8000)
	p := l.tree(50, 3)
	r, other := rowOf(t, p), rowOf(t, p)
	fork := r.Fork()
	want := told(r)
	for range 2 {
		cells, text := r.Cells(), r.Text()
		cells, text = cells[:cap(cells)], text[:cap(text)]
		for i := range cells {
			cells[i] = rga.Cell{Id: by(7, 7), Char: 'x', Gone: true}
		}
		for i := range text {
			text[i] = 'x'
		}
		if told(r) != want || told(fork) != want {
			t.Fatal("writing to answers changed the row, or its fork")
		}
	}
	kept, text := r.Cells(), r.Text()
	before, letters := slices.Clone(kept), string(text)
	for _, one := range p {
		remove(t, r, one.cell.Id)
	}
	insert(t, r, rga.Id{}, by(1000), 'x')
	if !slices.Equal(kept, before) || string(text) != letters {
		t.Fatal("what was done to the row changed what it had told")
	}
	if told(other) != want {
		t.Fatal("what was done to one row changed another one")
	}
}

// Rule 4: the looks change nothing; asked again, they tell the same.
func TestLooksChangeNothing(t *testing.T) {
	l := list(9000)
	p := l.tree(50, 3)
	r := rowOf(t, p)
	want := told(r)
	for range 3 {
		if told(r) != want {
			t.Fatal("a look changed the row")
		}
	}
	expectRow(t, r, p.cells()...)
}
