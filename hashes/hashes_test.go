package hashes_test

import (
	"slices"
	"testing"

	"stemma/api"
	"stemma/hashes"
)

// short tells the hashes that begin with these bytes, and have noughts behind.
func short(firsts ...byte) []api.Hash {
	var l []api.Hash
	for _, b := range firsts {
		l = append(l, api.Hash{b})
	}
	return l
}

// at tells the hash of noughts but for one byte.
func at(place int, b byte) (h api.Hash) {
	h[place] = b
	return h
}

// highest tells the hash that none is behind of.
func highest() (h api.Hash) {
	for i := range h {
		h[i] = 0xff
	}
	return h
}

// risers are hashes that rise; those beside one another differ at the first byte, at the last one, or between.
func risers() []api.Hash {
	ones := api.Hash{1, 1}
	last := ones
	last[31] = 1
	return []api.Hash{{}, at(31, 1), at(31, 0x7f), at(31, 0x80), at(31, 0xff), at(30, 1), at(16, 1), at(1, 0xff), {1}, ones, last, {1, 2}, {0x7f, 0xff}, {0x80}, {0xff}, highest()}
}

// tell tells a list in few digits, for what a test says.
func tell(l []api.Hash) string {
	s := ""
	for _, h := range l {
		s += " " + string("0123456789abcdef"[h[0]>>4]) + string("0123456789abcdef"[h[0]&15])
	}
	return "(" + s + " )"
}

// expectList asks for a list.
func expectList(t *testing.T, what string, got, want []api.Hash) {
	t.Helper()
	if !slices.Equal(got, want) {
		t.Errorf("%s = %s, want %s", what, tell(got), tell(want))
	}
}

// P6.1
func TestSort(t *testing.T) {
	for _, x := range []struct{ l, want []api.Hash }{
		{nil, nil},
		{[]api.Hash{}, nil},
		{short(2, 1, 2), short(1, 2)},
		{short(7), short(7)},
		{short(0), short(0)},
		{short(7, 7, 7), short(7)},
		{short(1, 2, 3), short(1, 2, 3)},
		{short(3, 2, 1), short(1, 2, 3)},
		{short(0xff, 0x80, 0x7f, 0), short(0, 0x7f, 0x80, 0xff)},
		{short(5, 3, 5, 3, 5, 0, 3), short(0, 3, 5)},
		{[]api.Hash{at(31, 2), at(31, 1)}, []api.Hash{at(31, 1), at(31, 2)}},
		{[]api.Hash{at(0, 1), at(31, 2)}, []api.Hash{at(31, 2), at(0, 1)}},
	} {
		expectList(t, "Sort"+tell(x.l), hashes.Sort(x.l), x.want)
	}
}

// P6.1: in whatever order they came, and however often.
func TestSortManyOrders(t *testing.T) {
	all := risers()
	n := len(all)
	for step := 1; step <= n; step++ {
		for from := range n {
			var l []api.Hash
			for i := range n + 1 {
				l = append(l, all[(from+i*step)%n], all[(from+i)%n])
			}
			expectList(t, "Sort of many", hashes.Sort(l), all)
		}
	}
	slices.Reverse(all)
	expectList(t, "Sort of falling ones", hashes.Sort(all), risers())
}

// P6.1
func TestRising(t *testing.T) {
	for _, x := range []struct {
		l    []api.Hash
		want bool
	}{
		{nil, true},
		{[]api.Hash{}, true},
		{short(0), true},
		{short(9), true},
		{short(1, 1), false},
		{short(0, 0), false},
		{short(1, 2), true},
		{short(2, 1), false},
		{short(0x7f, 0x80), true},
		{short(0x80, 0x7f), false},
		{short(1, 2, 3), true},
		{short(1, 2, 2), false},
		{short(1, 1, 2), false},
		{short(1, 3, 2), false},
		{short(2, 1, 3), false},
		{short(1, 2, 1), false},
		{risers(), true},
	} {
		if got := hashes.Rising(x.l); got != x.want {
			t.Errorf("Rising%s = %t", tell(x.l), got)
		}
	}
	all := risers()
	for i := range all {
		for j := range all {
			if got := hashes.Rising([]api.Hash{all[i], all[j]}); got != (i < j) {
				t.Errorf("Rising of the hashes %d and %d = %t", i, j, got)
			}
		}
	}
}

// P6.1: one that falls, or stands twice, is seen at every place.
func TestRisingAtEveryPlace(t *testing.T) {
	for i := range len(risers()) - 1 {
		falling, twice := risers(), risers()
		falling[i], falling[i+1] = falling[i+1], falling[i]
		twice[i] = twice[i+1]
		if hashes.Rising(falling) || hashes.Rising(twice) {
			t.Errorf("a list that does not rise at %d is a rising one", i)
		}
	}
}

// P6.1
func TestSame(t *testing.T) {
	for _, x := range []struct {
		a, b []api.Hash
		want bool
	}{
		{nil, nil, true},
		{nil, []api.Hash{}, true},
		{[]api.Hash{}, nil, true},
		{nil, short(0), false},
		{short(0), nil, false},
		{short(1), short(1), true},
		{short(1), short(2), false},
		{short(1, 2), short(1, 2), true},
		{short(1, 2), short(2, 1), false}, // not as sets
		{short(2, 1), short(2, 1), true},
		{short(1), short(1, 1), false},
		{short(1, 1), short(1), false},
		{short(1, 1), short(1, 1), true},
		{short(1, 2, 3), short(1, 2), false},
		{short(1, 2), short(1, 2, 3), false},
		{short(2, 3), short(1, 2, 3), false},
		{short(1, 2, 3), short(1, 4, 3), false},
		{[]api.Hash{{}}, []api.Hash{at(31, 1)}, false},
		{[]api.Hash{at(15, 1)}, []api.Hash{at(16, 1)}, false},
		{risers(), risers(), true},
	} {
		if got := hashes.Same(x.a, x.b); got != x.want {
			t.Errorf("Same(%s, %s) = %t", tell(x.a), tell(x.b), got)
		}
	}
}

// P6.1
func TestHas(t *testing.T) {
	for _, x := range []struct {
		l    []api.Hash
		h    api.Hash
		want bool
	}{
		{nil, api.Hash{}, false},
		{[]api.Hash{}, api.Hash{}, false},
		{short(0), api.Hash{}, true},
		{short(1), api.Hash{}, false},
		{short(1, 2, 3), api.Hash{1}, true},
		{short(1, 2, 3), api.Hash{2}, true},
		{short(1, 2, 3), api.Hash{3}, true},
		{short(1, 2, 3), api.Hash{4}, false},
		{short(1, 2, 3), api.Hash{2, 1}, false},
		{short(9, 1, 5), api.Hash{9}, true}, // in any order
		{short(9, 1, 5), api.Hash{1}, true},
		{short(9, 1, 5), api.Hash{5}, true},
		{short(9, 1, 5), api.Hash{4}, false},
		{short(4, 4), api.Hash{4}, true},
		{[]api.Hash{at(31, 1)}, api.Hash{}, false},
		{[]api.Hash{at(31, 1)}, at(31, 1), true},
	} {
		if got := hashes.Has(x.l, x.h); got != x.want {
			t.Errorf("Has(%s, %s) = %t", tell(x.l), tell([]api.Hash{x.h}), got)
		}
	}
}

// P6.2
func TestUnionMinusMeet(t *testing.T) {
	for _, x := range []struct{ a, b, union, minus, meet []api.Hash }{
		{nil, nil, nil, nil, nil},
		{[]api.Hash{}, nil, nil, nil, nil},
		{short(1), nil, short(1), short(1), nil},
		{nil, short(1), short(1), nil, nil},
		{short(0), short(0), short(0), nil, short(0)},
		{short(1, 2), short(2), short(1, 2), short(1), short(2)},
		{short(1, 2), short(2, 3), short(1, 2, 3), short(1), short(2)},
		{short(2, 3), short(1, 2), short(1, 2, 3), short(3), short(2)},
		{short(1, 3), short(2, 4), short(1, 2, 3, 4), short(1, 3), nil},
		{short(1, 2, 3), short(1, 2, 3), short(1, 2, 3), nil, short(1, 2, 3)},
		{short(1, 2, 3, 4), short(2, 3), short(1, 2, 3, 4), short(1, 4), short(2, 3)},
		{short(2, 3), short(1, 2, 3, 4), short(1, 2, 3, 4), nil, short(2, 3)},
		// lists of any order, with hashes that stand twice
		{short(3, 1, 3), short(2, 2), short(1, 2, 3), short(1, 3), nil},
		{short(5, 4, 5, 1, 4), short(9, 5, 1, 9, 5), short(1, 4, 5, 9), short(4), short(1, 5)},
		{short(3, 2, 1), nil, short(1, 2, 3), short(1, 2, 3), nil},
		{nil, short(3, 2, 3), short(2, 3), nil, nil},
		{short(2, 2), short(2), short(2), nil, short(2)},
		{short(2), short(2, 2), short(2), nil, short(2)},
		{short(1, 1), short(2), short(1, 2), short(1), nil},
		// hashes that differ at the last byte alone
		{[]api.Hash{at(31, 1)}, []api.Hash{{}}, []api.Hash{{}, at(31, 1)}, []api.Hash{at(31, 1)}, nil},
	} {
		expectList(t, "Union of "+tell(x.a)+" and "+tell(x.b), hashes.Union(x.a, x.b), x.union)
		expectList(t, "Minus of "+tell(x.a)+" and "+tell(x.b), hashes.Minus(x.a, x.b), x.minus)
		expectList(t, "Meet of "+tell(x.a)+" and "+tell(x.b), hashes.Meet(x.a, x.b), x.meet)
	}
}
