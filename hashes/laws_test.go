package hashes_test

import (
	"slices"
	"sort"
	"testing"

	"stemma/api"
	"stemma/hashes"
)

// row is a row of numbers that looks like one without a rule, and is the same at each run.
type row uint64

// below tells the row's next number, from 0 to n - 1.
func (r *row) below(n int) int {
	*r = *r*6364136223846793005 + 1442695040888963407
	return int(uint64(*r) >> 33 % uint64(n))
}

// few tells up to n hashes of a small pool, in any order, so that some stand twice.
func (r *row) few(n int) []api.Hash {
	pool := risers()
	l := make([]api.Hash, r.below(n+1))
	for i := range l {
		l[i] = pool[r.below(len(pool))]
	}
	return l
}

// picked tells the hashes of which want is true, rising: the chapter's sets as plainly as can be, from the pool that all are of.
func picked(want func(h api.Hash) bool) []api.Hash {
	var l []api.Hash
	for _, h := range risers() {
		if want(h) {
			l = append(l, h)
		}
	}
	return l
}

// P6.1, P6.2, P6.6
func TestSetsHeldAgainstMembers(t *testing.T) {
	r := row(7)
	for range 3000 {
		a, b := r.few(20), r.few(20)
		inA := func(h api.Hash) bool { return slices.Index(a, h) >= 0 }
		inB := func(h api.Hash) bool { return slices.Index(b, h) >= 0 }
		names := tell(a) + " and " + tell(b)
		expectList(t, "Sort of "+tell(a), hashes.Sort(a), picked(inA))
		expectList(t, "Union of "+names, hashes.Union(a, b), picked(func(h api.Hash) bool { return inA(h) || inB(h) }))
		expectList(t, "Minus of "+names, hashes.Minus(a, b), picked(func(h api.Hash) bool { return inA(h) && !inB(h) }))
		expectList(t, "Meet of "+names, hashes.Meet(a, b), picked(func(h api.Hash) bool { return inA(h) && inB(h) }))
		for _, h := range risers() {
			if hashes.Has(a, h) != inA(h) {
				t.Fatalf("Has(%s, %x) = %t", tell(a), h, !inA(h))
			}
		}
	}
}

// P6.6: what holds of sets holds of these.
func TestLawsOfSets(t *testing.T) {
	r := row(11)
	for range 1000 {
		a, b, c := r.few(12), r.few(12), r.few(12)
		union, minus, meet := hashes.Union, hashes.Minus, hashes.Meet
		for what, sides := range map[string][2][]api.Hash{
			"a or b = b or a":                            {union(a, b), union(b, a)},
			"a and b = b and a":                          {meet(a, b), meet(b, a)},
			"(a or b) or c = a or (b or c)":              {union(union(a, b), c), union(a, union(b, c))},
			"(a and b) and c = a and (b and c)":          {meet(meet(a, b), c), meet(a, meet(b, c))},
			"a and (b or c) = (a and b) or (a and c)":    {meet(a, union(b, c)), union(meet(a, b), meet(a, c))},
			"a less (b or c) = (a less b) less c":        {minus(a, union(b, c)), minus(minus(a, b), c)},
			"(a less b) or (a and b) = a":                {union(minus(a, b), meet(a, b)), hashes.Sort(a)},
			"(a less b) and b = none":                    {meet(minus(a, b), b), nil},
			"a or a = a and a":                           {union(a, a), meet(a, a)},
			"a less a = none":                            {minus(a, a), nil},
			"a or none = a less none":                    {union(a, nil), minus(a, nil)},
			"the sorted sides have the same ones":        {union(a, b), union(hashes.Sort(a), hashes.Sort(b))},
			"sorting what is sorted already is the same": {hashes.Sort(hashes.Sort(a)), hashes.Sort(a)},
		} {
			if !hashes.Same(sides[0], sides[1]) || !hashes.Rising(sides[0]) {
				t.Fatalf("%s, of %s, %s, %s: %s and %s", what, tell(a), tell(b), tell(c), tell(sides[0]), tell(sides[1]))
			}
		}
	}
}

// P6.6
func TestGetOfPutOfAnyRisingList(t *testing.T) {
	r := row(13)
	for range 2000 {
		l := r.few(20)
		rising := slices.Equal(l, hashes.Sort(l))
		if hashes.Rising(l) != rising {
			t.Fatalf("Rising%s = %t", tell(l), !rising)
		}
		if b := hashes.Put(l); rising {
			expectGet(t, string(b), 20, l, len(b), api.OK)
		} else {
			expectGet(t, string(b), 20, nil, 0, api.ErrForm)
		}
		l = hashes.Sort(l)
		b := hashes.Put(l)
		expectGet(t, string(b), 20, l, len(b), api.OK)
	}
}

// P6.1, P6.2: lists as long as a document has changes.
func TestLongLists(t *testing.T) {
	r := row(17)
	l := make([]api.Hash, 2*api.MaxChanges)
	for i := range l {
		for j := range l[i] {
			l[i][j] = byte(r.below(256))
		}
	}
	want := slices.Clone(l)
	sort.Slice(want, func(i, j int) bool { return string(want[i][:]) < string(want[j][:]) })
	expectList(t, "Sort of a long list", hashes.Sort(l), want)
	half := l[:len(l)/2]
	rest := hashes.Minus(l, half)
	expectList(t, "Minus of a long list", rest, hashes.Sort(l[len(l)/2:]))
	expectList(t, "Union of long lists", hashes.Union(rest, half), want)
	expectList(t, "Meet of long lists", hashes.Meet(l, half), hashes.Sort(half))
	b := hashes.Put(want)
	expectGet(t, string(b), len(want), want, len(b), api.OK)
}
