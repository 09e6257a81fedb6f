package rga_test

import (
	"testing"

	"stemma/rga"
)

// expectLong asks of a long row what its cells' numbers are, in order, without holding all places against it.
func expectLong(t *testing.T, r *rga.Row, many int, want func(place int) int) {
	t.Helper()
	cells := r.Cells()
	if len(cells) != many || r.Len() != many || len(r.Text()) != many {
		t.Fatalf("%d cells, %d of them left, want %d", len(cells), r.Len(), many)
	}
	for place, c := range cells {
		if c.Id != id(want(place)) {
			t.Fatalf("at %d stands %d, want %d", place, c.Id.Ctr, want(place))
		}
	}
	for _, place := range []int{0, 1, many / 2, many - 1} {
		if at, there := r.At(place); at != id(want(place)) || !there {
			t.Fatalf("At(%d) = %d, %v", place, at.Ctr, there)
		}
	}
	if at, there := r.At(many); at != (rga.Id{}) || there {
		t.Fatalf("At(%d) = %d, %v", many, at.Ctr, there)
	}
}

// Rule 1: a row that is as deep as it is long; every call ends.
func TestDeepest(t *testing.T) {
	many := 1 << 20
	if testing.Short() {
		many = 1 << 14
	}
	r := rga.New()
	for i := range many {
		insert(t, r, id(i), id(i+1), 'a')
	}
	expectLong(t, r, many, func(place int) int { return place + 1 })
	fork := r.Fork()
	insert(t, fork, id(1), id(many+1), 'b')
	expectLong(t, r, many, func(place int) int { return place + 1 })
	expectLong(t, fork, many+1, func(place int) int {
		switch place {
		case 0:
			return 1
		case 1:
			return many + 1
		}
		return place
	})
}

// Rule 1: a row of which all stands below the beginning, put in rising, falling and mixed order.
func TestWidest(t *testing.T) {
	const many = 1 << 15
	for what, number := range map[string]func(i int) int{
		"rising":  func(i int) int { return i + 1 },
		"falling": func(i int) int { return many - i },
		"mixed":   func(i int) int { return i*12345%many + 1 },
	} {
		t.Run(what, func(t *testing.T) {
			r := rga.New()
			for i := range many {
				insert(t, r, rga.Id{}, id(number(i)), 'a')
			}
			expectLong(t, r, many, func(place int) int { return many - place })
		})
	}
}

// Rule 1: a row of two writers beside one another, of which each goes on behind its own.
func TestTwoLongWords(t *testing.T) {
	const many = 1 << 14
	r := rga.New()
	for i := range many { // even numbers behind even ones, odd ones behind odd ones
		after := max(0, i-1)
		insert(t, r, id(after), id(i+1), 'a')
	}
	expectLong(t, r, many, func(place int) int {
		if place < many/2 {
			return 2*place + 2
		}
		return 2*(place-many/2) + 1
	})
}
