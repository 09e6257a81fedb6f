package index_test

import (
	"maps"
	"slices"
	"strings"
	"testing"

	"stemma/api"
	"stemma/hashes"
	"stemma/index"
)

// random is a row of numbers that looks like one without a rule, and is the same at each run.
type random uint64

// below tells the row's next number, from 0 to n - 1.
func (r *random) below(n int) int {
	*r = *r*6364136223846793005 + 1442695040888963407
	return int(uint64(*r) >> 33 % uint64(n))
}

// name tells a name, one of few, or a text that is none.
func (r *random) name(wrong int) string {
	if r.below(wrong) == 0 {
		l := noNames()
		return l[r.below(len(l))]
	}
	return strings.Repeat(string("abzAZ09._"[r.below(9)]), 1+r.below(3)) + "n"
}

// list tells up to n hashes of a small pool, rising or not.
func (r *random) list(n, wrong int) []api.Hash {
	var l []api.Hash
	for range r.below(n + 1) {
		l = append(l, api.Hash{0: byte(r.below(4)), 31: byte(r.below(200))})
	}
	if r.below(wrong) == 0 {
		return l
	}
	slices.SortFunc(l, func(a, b api.Hash) int { return strings.Compare(string(a[:]), string(b[:])) })
	return slices.Compact(l)
}

// records tells records; each thing of them is wrong once in so often.
func (r *random) records(wrong int) []api.Record {
	var l []api.Record
	for range r.below(6) {
		x := api.Record{Name: r.name(wrong), Changes: r.list(20, wrong)}
		for range r.below(5) {
			x.Branches = append(x.Branches, api.Branch{Name: r.name(wrong), Heads: r.list(17, wrong)})
		}
		if r.below(wrong) > 0 {
			slices.SortFunc(x.Branches, func(a, b api.Branch) int { return strings.Compare(a.Name, b.Name) })
			x.Branches = slices.CompactFunc(x.Branches, func(a, b api.Branch) bool { return a.Name == b.Name })
		}
		l = append(l, x)
	}
	if r.below(wrong) > 0 {
		slices.SortFunc(l, func(a, b api.Record) int { return strings.Compare(a.Name, b.Name) })
		l = slices.CompactFunc(l, func(a, b api.Record) bool { return a.Name == b.Name })
	}
	return l
}

// rises tells whether texts are names that rise, each once.
func rises(l []string) bool {
	for i, s := range l {
		if !hashes.Name(s) || i > 0 && l[i-1] >= s {
			return false
		}
	}
	return true
}

// mayBe tells whether short records may be, as the chapter says it.
func mayBe(l []api.Record) bool {
	ok := true
	var names []string
	for _, r := range l {
		names = append(names, r.Name)
		var inner []string
		for _, b := range r.Branches {
			inner = append(inner, b.Name)
			ok = ok && len(b.Heads) <= 16 && hashes.Rising(b.Heads)
		}
		ok = ok && rises(inner) && hashes.Rising(r.Changes)
	}
	return ok && rises(names)
}

// P17.4: whatever the records, they are laid and read, or refused, and live by the chapter's words.
func TestRandomRecords(t *testing.T) {
	r := random(17)
	laid, refused := 0, 0
	for range 6000 {
		l := r.records(60)
		if mayBe(l) {
			expectLaid(t, "random records", l)
			laid++
		} else {
			expectRefused(t, "random records", l, api.ErrForm)
			refused++
		}
		all := map[api.Hash]int{}
		for _, x := range l {
			for _, h := range x.Changes {
				all[h]++
			}
		}
		if live := index.Live(l); !slices.Equal(live, hashes.Sort(slices.Collect(maps.Keys(all)))) {
			t.Fatalf("Live = %d hashes, want %d, or others", len(live), len(all))
		}
		if m := r.records(60); index.Same(l, m) != alike(l, m) || !index.Same(l, deep(l)) {
			t.Fatal("Same tells records apart that are alike, or does not")
		}
	}
	if laid < 1000 || refused < 1000 {
		t.Errorf("%d rows were laid and %d refused: too few to tell", laid, refused)
	}
}

// P17.4: unlike records have unlike bytes.
func TestUnlikeRecordsHaveUnlikeBytes(t *testing.T) {
	r := random(4)
	seen := map[string][]api.Record{}
	for range 3000 {
		l := r.records(1 << 30)
		if !mayBe(l) { // of too many heads
			continue
		}
		b, e := index.Put(l)
		if m, ok := seen[string(b)]; e != api.OK || ok && !alike(l, m) {
			t.Fatalf("two lists of records are laid as %.40x.., %d", b, int(e))
		}
		seen[string(b)] = l
	}
}

// P17.4: bytes near to those that are laid tell what is laid as them alone, or nothing.
func TestRandomBytes(t *testing.T) {
	r := random(99)
	told := 0
	for range 12000 {
		b := []byte(bytesOf(r.records(60)))
		for range r.below(3) {
			i := r.below(len(b))
			switch r.below(4) {
			case 0:
				b[i] = byte(r.below(256))
			case 1:
				b = slices.Delete(b, i, i+1)
			case 2:
				b = slices.Insert(b, i, byte(r.below(256)))
			default:
				b[i] ^= 1 << r.below(8)
			}
			if len(b) == 0 {
				break
			}
		}
		expectOneWay(t, b)
		if _, e := index.Get(b); e == api.OK {
			told++
		}
	}
	if told < 1500 || told > 10500 {
		t.Errorf("%d of 12000 were told: too few, or too many, to tell", told)
	}
}
