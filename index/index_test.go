package index_test

import (
	"slices"
	"strconv"
	"strings"
	"testing"

	"stemma/api"
	"stemma/index"
)

// mostBytes is how many bytes an index has at most, as the chapter says it.
const mostBytes = 524288

// short tells the hashes that begin with these bytes, and have noughts behind.
func short(firsts ...byte) []api.Hash {
	var l []api.Hash
	for _, b := range firsts {
		l = append(l, api.Hash{b})
	}
	return l
}

// many tells n hashes that rise.
func many(n int) []api.Hash {
	var l []api.Hash
	for i := range n {
		l = append(l, api.Hash{0: byte(i >> 8), 31: byte(i)})
	}
	return l
}

// last tells the hash that is behind 1.. by its last byte alone.
func last() api.Hash {
	return api.Hash{0: 1, 31: 1}
}

// alike tells whether records are the same, without asking the package.
func alike(a, b []api.Record) bool {
	return slices.EqualFunc(a, b, func(x, y api.Record) bool {
		return x.Name == y.Name && slices.Equal(x.Changes, y.Changes) && slices.EqualFunc(x.Branches, y.Branches, func(v, w api.Branch) bool {
			return v.Name == w.Name && slices.Equal(v.Heads, w.Heads)
		})
	})
}

// deep tells a copy of records that shares nothing with them.
func deep(l []api.Record) []api.Record {
	l = slices.Clone(l)
	for i := range l {
		l[i].Changes = slices.Clone(l[i].Changes)
		l[i].Branches = slices.Clone(l[i].Branches)
		for j := range l[i].Branches {
			l[i].Branches[j].Heads = slices.Clone(l[i].Branches[j].Heads)
		}
	}
	return l
}

// number tells a number's bytes by sevens, as chapter 2 says.
func number(n int) string {
	if n < 128 {
		return string([]byte{byte(n)})
	}
	return string([]byte{byte(n%128 + 128)}) + number(n/128)
}

// sum tells hashes' bytes behind how many there are.
func sum(l []api.Hash) string {
	b := []byte(number(len(l)))
	for _, h := range l {
		b = append(b, h[:]...)
	}
	return string(b)
}

// bytesOf tells the bytes of records as the chapter says it, whether they may be or not.
func bytesOf(l []api.Record) string {
	b := []string{"\x01", number(len(l))}
	for _, r := range l {
		b = append(b, number(len(r.Name)), r.Name, number(len(r.Branches)))
		for _, x := range r.Branches {
			b = append(b, number(len(x.Name)), x.Name, sum(x.Heads))
		}
		b = append(b, sum(r.Changes))
	}
	return strings.Join(b, "")
}

// docs tells n records without anything, by names that rise.
func docs(n int) []api.Record {
	var l []api.Record
	for i := range n {
		l = append(l, api.Record{Name: "d" + strconv.Itoa(100+i)})
	}
	return l
}

// branches tells n branches, by names that rise.
func branches(n int) []api.Branch {
	var l []api.Branch
	for i := range n {
		l = append(l, api.Branch{Name: "b" + strconv.Itoa(100+i), Heads: short(byte(i), byte(i+1))})
	}
	return l
}

// long tells records of 524280 bytes, and what the name of one branch more has.
func long(name string) []api.Record {
	l := []api.Record{{Name: "a", Changes: many(4096)}, {Name: "b", Changes: many(4096)}, {Name: "c", Changes: many(4096)}, {Name: "d", Changes: many(4095)}}
	l[1].Branches = []api.Branch{{Name: name}}
	return l
}

// plant tells records of each kind that may be.
func plant() []api.Record {
	return []api.Record{
		{Name: "A"},
		{Name: "a", Branches: []api.Branch{{Name: "main", Heads: short(1)}}, Changes: short(1, 2)},
		{Name: "a.b", Branches: []api.Branch{{Name: "draft"}, {Name: "main", Heads: many(api.MaxDeps)}, {Name: "z", Heads: short(7, 9)}}, Changes: many(300)},
		{Name: "b", Changes: short(2, 3)},
		{Name: strings.Repeat("n", api.MaxName), Branches: branches(api.MaxBranches)},
	}
}

// expectLaid asks for the chapter's bytes of records that may be, and for the records of these bytes.
func expectLaid(t *testing.T, what string, l []api.Record) {
	t.Helper()
	if e := index.Check(l); e != api.OK {
		t.Errorf("%s: Check = %d, want none", what, int(e))
	}
	b, e := index.Put(l)
	if e != api.OK || string(b) != bytesOf(l) {
		t.Errorf("%s: Put = %d bytes %.40x.., %d, want %d bytes %.40x..", what, len(b), b, int(e), len(bytesOf(l)), bytesOf(l))
	}
	if got, e := index.Get([]byte(bytesOf(l))); e != api.OK || !alike(got, l) {
		t.Errorf("%s: Get tells %d records, %d, and not what was laid", what, len(got), int(e))
	}
}

// expectRefused asks for an error of Check and Put, and for ErrForm of what the bytes would be.
func expectRefused(t *testing.T, what string, l []api.Record, want api.Errno) {
	t.Helper()
	if e := index.Check(l); e != want {
		t.Errorf("%s: Check = %d, want %d", what, int(e), int(want))
	}
	if b, e := index.Put(l); len(b) != 0 || e != want {
		t.Errorf("%s: Put = %d bytes, %d, want none and %d", what, len(b), int(e), int(want))
	}
	expectForm(t, what, bytesOf(l))
}

// expectForm asks for ErrForm of bytes.
func expectForm(t *testing.T, what, b string) {
	t.Helper()
	if got, e := index.Get([]byte(b)); len(got) != 0 || e != api.ErrForm {
		t.Errorf("%s: Get of %.40x.. = %d records, %d, want none and ErrForm", what, b, len(got), int(e))
	}
}

// The chapter's examples.
func TestExample(t *testing.T) {
	for _, x := range []struct {
		l    []api.Record
		want string
	}{
		{nil, "\x01\x00"},
		{[]api.Record{}, "\x01\x00"},
		{[]api.Record{{Name: "a"}}, "\x01\x01\x01a\x00\x00"},
	} {
		if b, e := index.Put(x.l); string(b) != x.want || e != api.OK {
			t.Errorf("Put = %x, %d, want %x", b, int(e), x.want)
		}
		expectLaid(t, "an example", x.l)
	}
	expectForm(t, "00", "\x00")
	expectRefused(t, "two records b and a", []api.Record{{Name: "b"}, {Name: "a"}}, api.ErrForm)
}

// P17.2: each part behind the other, in full.
func TestPutOfAllParts(t *testing.T) {
	l := []api.Record{
		{Name: "a", Branches: []api.Branch{{Name: "m"}, {Name: "ma", Heads: short(5, 6)}}, Changes: short(4, 5, 6)},
		{Name: "bc", Changes: short(9)},
	}
	nought := strings.Repeat("\x00", 31)
	want := "\x01\x02" +
		"\x01a" + "\x02" + "\x01m\x00" + "\x02ma\x02\x05" + nought + "\x06" + nought + "\x03\x04" + nought + "\x05" + nought + "\x06" + nought +
		"\x02bc" + "\x00" + "\x01\x09" + nought
	if b, e := index.Put(l); string(b) != want || e != api.OK {
		t.Errorf("Put = %x, %d\nwant %x", b, int(e), want)
	}
	expectLaid(t, "all parts", l)
}

// P17.1, P17.2, P17.3: what may be, up to each limit.
func TestRecordsThatMayBe(t *testing.T) {
	for what, l := range map[string][]api.Record{
		"one of each kind":                     plant(),
		"64 records":                           docs(api.MaxDocs),
		"names of 1 and of 32 bytes":           {{Name: "N"}, {Name: strings.Repeat("n", 32)}},
		"a name that begins as another one":    {{Name: "a"}, {Name: "a-"}, {Name: "a-b"}, {Name: "aa"}},
		"names in the order of their bytes":    {{Name: "-0"}, {Name: "."}, {Name: "0"}, {Name: "Z"}, {Name: "_"}, {Name: "a"}},
		"64 branches":                          {{Name: "a", Branches: branches(api.MaxBranches)}},
		"the same branch of two records":       {{Name: "a", Branches: branches(1)}, {Name: "b", Branches: branches(1)}},
		"a branch named as its record":         {{Name: "a", Branches: []api.Branch{{Name: "a"}}}},
		"a branch of 32 bytes":                 {{Name: "a", Branches: []api.Branch{{Name: strings.Repeat("b", 32)}}}},
		"16 heads":                             {{Name: "a", Branches: []api.Branch{{Name: "b", Heads: many(api.MaxDeps)}}}},
		"heads that are no changes":            {{Name: "a", Branches: []api.Branch{{Name: "b", Heads: short(9)}}, Changes: short(8)}},
		"heads that differ at the last byte":   {{Name: "a", Branches: []api.Branch{{Name: "b", Heads: []api.Hash{{1}, last()}}}}},
		"changes that differ at the last byte": {{Name: "a", Changes: []api.Hash{{1}, last()}}},
		"the zero hash":                        {{Name: "a", Branches: []api.Branch{{Name: "b", Heads: short(0)}}, Changes: short(0)}},
		"the same changes of two records":      {{Name: "a", Changes: short(1, 2)}, {Name: "b", Changes: short(1, 2)}},
		"127 changes":                          {{Name: "a", Changes: many(127)}},
		"128 changes":                          {{Name: "a", Changes: many(128)}},
		"4095 changes":                         {{Name: "a", Changes: many(4095)}},
		"4096 changes":                         {{Name: "a", Changes: many(api.MaxChanges)}},
		"a first record without anything":      {{Name: "a"}, {Name: "b", Branches: branches(2), Changes: short(3)}},
		"empty lists":                          {{Name: "a", Branches: []api.Branch{{Name: "b", Heads: []api.Hash{}}}, Changes: []api.Hash{}}, {Name: "b", Branches: []api.Branch{}}},
	} {
		expectLaid(t, what, l)
	}
}

// noNames are texts that are no names.
func noNames() []string {
	return []string{"", "-", " ", "a b", "a/b", "a\x00", "ä", "\xff", "a,b", strings.Repeat("n", api.MaxName+1), strings.Repeat("n", 300)}
}

// noLists are lists that do not rise.
func noLists() [][]api.Hash {
	return [][]api.Hash{short(2, 1), short(1, 1), short(1, 3, 2), short(1, 2, 2), short(0, 0), short(0x80, 0x7f), {last(), {1}}}
}

// wrong tells records that may not be, each for one cause.
func wrong() map[string]api.Record {
	m := map[string]api.Record{}
	for i, s := range noNames() {
		m["no name "+strconv.Itoa(i)] = api.Record{Name: s}
		m["a branch by no name "+strconv.Itoa(i)] = api.Record{Name: "m", Branches: []api.Branch{{Name: s}}}
	}
	for i, l := range noLists() {
		m["changes that do not rise "+strconv.Itoa(i)] = api.Record{Name: "m", Changes: l}
		m["heads that do not rise "+strconv.Itoa(i)] = api.Record{Name: "m", Branches: []api.Branch{{Name: "b"}, {Name: "c", Heads: l}}}
	}
	m["4097 changes"] = api.Record{Name: "m", Changes: many(api.MaxChanges + 1)}
	m["changes that are one too many and do not rise"] = api.Record{Name: "m", Changes: append(many(api.MaxChanges), api.Hash{})}
	m["17 heads"] = api.Record{Name: "m", Branches: []api.Branch{{Name: "b", Heads: many(api.MaxDeps + 1)}}}
	m["65 branches"] = api.Record{Name: "m", Branches: branches(api.MaxBranches + 1)}
	m["branches that do not rise"] = api.Record{Name: "m", Branches: []api.Branch{{Name: "c"}, {Name: "b"}}}
	m["a branch twice"] = api.Record{Name: "m", Branches: []api.Branch{{Name: "b"}, {Name: "b"}}}
	m["a branch twice, with other heads"] = api.Record{Name: "m", Branches: []api.Branch{{Name: "b"}, {Name: "b", Heads: short(1)}}}
	return m
}

// P17.1: one record that may not be, alone, ahead of others, behind others and between.
func TestRecordsThatMayNotBe(t *testing.T) {
	ahead, behind := api.Record{Name: "a", Changes: short(1)}, api.Record{Name: "z", Changes: short(1)}
	for what, r := range wrong() {
		expectRefused(t, what, []api.Record{r}, api.ErrForm)
		expectRefused(t, what+", first", []api.Record{r, behind}, api.ErrForm)
		expectRefused(t, what+", last", []api.Record{ahead, r}, api.ErrForm)
		expectRefused(t, what+", between", []api.Record{ahead, r, behind}, api.ErrForm)
	}
}

// P17.1: names that do not rise, at each place.
func TestOrderOfRecords(t *testing.T) {
	for i := range len(docs(5)) - 1 {
		falling, twice, other := docs(5), docs(5), docs(5)
		falling[i], falling[i+1] = falling[i+1], falling[i]
		twice[i+1] = twice[i]
		other[i+1] = api.Record{Name: other[i].Name, Changes: short(1)}
		expectRefused(t, "falling names", falling, api.ErrForm)
		expectRefused(t, "a record twice", twice, api.ErrForm)
		expectRefused(t, "a name twice", other, api.ErrForm)
	}
	expectRefused(t, "a name behind what it begins", []api.Record{{Name: "aa"}, {Name: "a"}}, api.ErrForm)
	expectRefused(t, "letters behind those of another case", []api.Record{{Name: "a"}, {Name: "B"}}, api.ErrForm)
}

// P17.1: one record more than may be, whatever it is.
func TestTooManyRecords(t *testing.T) {
	expectRefused(t, "65 records", docs(api.MaxDocs+1), api.ErrForm)
	expectRefused(t, "65 records, one without a name", append(docs(api.MaxDocs), api.Record{}), api.ErrForm)
	expectRefused(t, "1000 records", docs(1000)[:1000:1000], api.ErrForm)
}

// P17.1: as many bytes as may be, and one more.
func TestBytesAtTheLimit(t *testing.T) {
	for n := 1; n <= 8; n++ {
		l := long(strings.Repeat("x", n))
		if got := len(bytesOf(l)); got != mostBytes-8+n {
			t.Fatalf("the test's records have %d bytes", got)
		}
		expectLaid(t, "records of up to the most bytes", l)
	}
	for n := 9; n <= api.MaxName; n++ {
		expectRefused(t, "records of too many bytes", long(strings.Repeat("x", n)), api.ErrLong)
	}
	great := docs(api.MaxDocs)
	for i := range great {
		great[i].Branches = branches(api.MaxBranches)
		great[i].Changes = many(api.MaxChanges)
	}
	expectRefused(t, "records that are full", great, api.ErrLong)
}

// P17.1: ErrForm is named ahead of ErrLong.
func TestFormAheadOfLength(t *testing.T) {
	for what, r := range wrong() {
		expectRefused(t, what+", behind too many bytes", append(long("xxxxxxxxx"), r), api.ErrForm)
	}
	l := long("xxxxxxxxx")
	l[0].Changes[4095] = l[0].Changes[4094]
	expectRefused(t, "a change twice, among too many bytes", l, api.ErrForm)
	expectRefused(t, "no order, among too many bytes", append(long("xxxxxxxxx"), api.Record{Name: "b"}), api.ErrForm)
	expectRefused(t, "too many records of too many bytes", append(long("xxxxxxxxx"), docs(100)...), api.ErrForm)
}
