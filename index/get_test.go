package index_test

import (
	"strings"
	"testing"

	"stemma/api"
	"stemma/hashes"
	"stemma/index"
)

// P17.3: bytes that nothing is laid as.
func TestGetOfWrongBytes(t *testing.T) {
	nought := strings.Repeat("\x00", 31)
	for what, b := range map[string]string{
		"nothing":                           "",
		"the first byte alone":              "\x01",
		"another first byte, 0":             "\x00\x00",
		"another first byte, 2":             "\x02\x00",
		"another first byte, 255":           "\xff\x00",
		"a first byte in two":               "\x81\x00\x00",
		"no records and a byte":             "\x01\x00\x00",
		"no records and an index":           "\x01\x00\x01\x00",
		"no records in two bytes":           "\x01\x80\x00",
		"one record in two bytes":           "\x01\x81\x00\x01a\x00\x00",
		"a record that is not there":        "\x01\x01",
		"two records of which one is there": "\x01\x02\x01a\x00\x00",
		"one record of two":                 "\x01\x01\x01a\x00\x00\x01b\x00\x00",
		"a name in a number of two bytes":   "\x01\x01\x81\x00a\x00\x00",
		"no branches in two bytes":          "\x01\x01\x01a\x80\x00\x00",
		"no changes in two bytes":           "\x01\x01\x01a\x00\x80\x00",
		"a branch's name in a long number":  "\x01\x01\x01a\x01\x81\x00b\x00\x00",
		"no heads in two bytes":             "\x01\x01\x01a\x01\x01b\x80\x00\x00",
		"a head in two bytes":               "\x01\x01\x01a\x01\x01b\x81\x00\x05" + nought + "\x00",
		"changes that are cut":              "\x01\x01\x01a\x00\x01\x05" + nought[1:],
		"heads that are cut":                "\x01\x01\x01a\x01\x01b\x01\x05" + nought[1:],
		"a number without an end":           "\x01\x80\x80\x80\x80\x80\x80\x80\x80\x80\x80\x80\x80",
		"2^63 records":                      "\x01\x80\x80\x80\x80\x80\x80\x80\x80\x80\x01",
		"2^64 - 1 records":                  "\x01\xff\xff\xff\xff\xff\xff\xff\xff\xff\x01",
		"2^64 - 1 branches":                 "\x01\x01\x01a\xff\xff\xff\xff\xff\xff\xff\xff\xff\x01",
		"2^64 - 1 heads":                    "\x01\x01\x01a\x01\x01b\xff\xff\xff\xff\xff\xff\xff\xff\xff\x01",
		"2^64 - 1 changes":                  "\x01\x01\x01a\x00\xff\xff\xff\xff\xff\xff\xff\xff\xff\x01",
		"2^59 changes":                      "\x01\x01\x01a\x00\x80\x80\x80\x80\x80\x80\x80\x80\x08",
		"a name of 2^63 bytes":              "\x01\x01\x80\x80\x80\x80\x80\x80\x80\x80\x80\x01a",
	} {
		expectForm(t, what, b)
	}
}

// P17.3: cut anywhere, with a byte more, and with any byte as another one, it is ErrForm, or other records.
func TestGetOfWhatIsNear(t *testing.T) {
	l := []api.Record{{Name: "a"}, {Name: "b", Branches: []api.Branch{{Name: "m"}, {Name: "n", Heads: short(1, 9)}}, Changes: short(3, 4)}, {Name: "c"}}
	b := bytesOf(l)
	for n := range len(b) {
		expectForm(t, "cut", b[:n])
	}
	for _, s := range []string{"\x00", "\x01", "\xff", b} {
		expectForm(t, "with more behind", b+s)
	}
	for i := range len(b) {
		for x := range 256 {
			near := []byte(b)
			near[i] = byte(x)
			expectOneWay(t, near)
		}
	}
}

// expectOneWay asks Get for what a plain reading of the bytes tells; and what it tells must be laid as these bytes.
func expectOneWay(t *testing.T, b []byte) {
	t.Helper()
	want, ok := plainly(b)
	got, e := index.Get(b)
	switch {
	case !ok && (e != api.ErrForm || len(got) != 0):
		t.Fatalf("Get of %.80x = %d records, %d, want none and ErrForm", b, len(got), int(e))
	case ok && (e != api.OK || !alike(got, want) || bytesOf(got) != string(b)):
		t.Fatalf("Get of %.80x = %d records, %d, want %d records, or others", b, len(got), int(e), len(want))
	}
}

// plainly reads bytes as the chapter tells it, all in one place.
func plainly(b []byte) (l []api.Record, ok bool) {
	p := plain{b: b, ok: len(b) > 0 && len(b) <= mostBytes && b[0] == 1}
	if p.ok {
		p.b = b[1:]
	}
	name := ""
	for range p.number(64) {
		r := api.Record{Name: p.name(name)}
		name = r.Name
		inner := ""
		for range p.number(64) {
			x := api.Branch{Name: p.name(inner), Heads: p.hashes(16)}
			inner = x.Name
			r.Branches = append(r.Branches, x)
		}
		r.Changes = p.hashes(4096)
		l = append(l, r)
	}
	return l, p.ok && len(p.b) == 0
}

// plain is what a plain reading has still, and whether all was well so far.
type plain struct {
	b  []byte
	ok bool
}

// take takes bytes off.
func (p *plain) take(n int) []byte {
	if !p.ok || len(p.b) < n {
		p.ok = false
		return make([]byte, n)
	}
	b := p.b[:n]
	p.b = p.b[n:]
	return b
}

// number takes a number off: no limit here has more than two bytes.
func (p *plain) number(most int) int {
	n := int(p.take(1)[0])
	if n > 127 {
		high := int(p.take(1)[0])
		p.ok = p.ok && high > 0 && high < 128
		n += high*128 - 128
	}
	if p.ok = p.ok && n <= most; !p.ok {
		return 0
	}
	return n
}

// name takes a name off that is behind another one.
func (p *plain) name(behind string) string {
	s := string(p.take(p.number(32)))
	p.ok = p.ok && hashes.Name(s) && s > behind
	return s
}

// hashes takes a rising list off.
func (p *plain) hashes(most int) (l []api.Hash) {
	for i := range p.number(most) {
		h := api.Hash(p.take(32))
		p.ok = p.ok && (i == 0 || string(l[i-1][:]) < string(h[:]))
		l = append(l, h)
	}
	return l
}

// P17.3: all short bytes.
func TestGetOfAllShortBytes(t *testing.T) {
	expectOneWay(t, nil)
	for x := range 1 << 16 {
		expectOneWay(t, []byte{byte(x >> 8)})
		expectOneWay(t, []byte{byte(x >> 8), byte(x)})
		expectOneWay(t, []byte{1, byte(x >> 8), byte(x)})
		expectOneWay(t, []byte{1, 1, byte(x >> 8), byte(x), 0, 0})
		expectOneWay(t, []byte{1, 1, 1, byte(x >> 8), byte(x), 0})
	}
	few := []byte{0, 1, 2, 'a', 'b'}
	for x := range 5 * 5 * 5 * 5 * 5 * 5 * 5 * 5 {
		b := []byte{1}
		for range 8 {
			b = append(b, few[x%5])
			x /= 5
		}
		expectOneWay(t, b)
	}
}

// P17.3: more bytes than are ever laid, though each record of them may be.
func TestGetOfTooManyBytes(t *testing.T) {
	expectForm(t, "one byte too many", bytesOf(long("xxxxxxxxx")))
	expectForm(t, "the most bytes, and one", bytesOf(long("xxxxxxxx"))+"\x00")
	expectForm(t, "as many noughts", "\x01"+strings.Repeat("\x00", mostBytes))
	expectForm(t, "very many bytes", "\x01"+strings.Repeat("\x40", 1<<23))
	expectForm(t, "cut by one", bytesOf(long("xxxxxxxx"))[:mostBytes-1])
}

// P17.3: each hash once, rising, of records in any order, that may be or not.
func TestLive(t *testing.T) {
	for _, x := range []struct {
		l    []api.Record
		want []api.Hash
	}{
		{nil, nil},
		{[]api.Record{}, nil},
		{docs(3), nil},
		{[]api.Record{{Name: "a", Branches: branches(2)}}, nil}, // heads are no changes
		{[]api.Record{{Name: "a", Branches: []api.Branch{{Name: "b", Heads: short(9)}}, Changes: short(8)}}, short(8)},
		{[]api.Record{{Name: "a", Changes: short(1, 2)}, {Name: "b", Changes: short(2, 3)}}, short(1, 2, 3)},
		{[]api.Record{{Name: "a", Changes: short(1, 3)}, {Name: "b", Changes: short(2, 4)}}, short(1, 2, 3, 4)},
		{[]api.Record{{Name: "a", Changes: short(7, 8)}, {Name: "b"}, {Name: "c", Changes: short(0, 1)}}, short(0, 1, 7, 8)},
		{[]api.Record{{Name: "a", Changes: short(5)}, {Name: "b", Changes: short(5)}, {Name: "c", Changes: short(5)}}, short(5)},
		{[]api.Record{{Name: "a", Changes: []api.Hash{{1}}}, {Name: "b", Changes: []api.Hash{last()}}}, []api.Hash{{1}, last()}},
		{[]api.Record{{Name: "b", Changes: short(3, 1, 3)}, {Changes: short(2, 2)}}, short(1, 2, 3)},
		{[]api.Record{{Name: "a", Changes: many(4096)}, {Name: "b", Changes: many(4096)}}, many(4096)},
	} {
		if got := index.Live(x.l); !hashes.Same(got, x.want) {
			t.Errorf("Live of %d records = %d hashes, want %d, or others", len(x.l), len(got), len(x.want))
		}
	}
}

// unlike tells records that differ from the plant's by one thing each.
func unlike() map[string][]api.Record {
	m := map[string][]api.Record{}
	change := func(what string, f func(l []api.Record) []api.Record) { m[what] = f(deep(plant())) }
	change("none", func([]api.Record) []api.Record { return nil })
	change("one less", func(l []api.Record) []api.Record { return l[:len(l)-1] })
	change("one less, the first", func(l []api.Record) []api.Record { return l[1:] })
	change("one more", func(l []api.Record) []api.Record { return append(l, api.Record{}) })
	change("another name", func(l []api.Record) []api.Record { l[0].Name = "B"; return l })
	change("another order", func(l []api.Record) []api.Record { l[0], l[1] = l[1], l[0]; return l })
	change("another branch's name", func(l []api.Record) []api.Record { l[1].Branches[0].Name = "mair"; return l })
	change("another head", func(l []api.Record) []api.Record { l[1].Branches[0].Heads[0][31]++; return l })
	change("a head less", func(l []api.Record) []api.Record { l[2].Branches[2].Heads = short(7); return l })
	change("a branch less", func(l []api.Record) []api.Record { l[2].Branches = l[2].Branches[:2]; return l })
	change("a branch more", func(l []api.Record) []api.Record { l[0].Branches = []api.Branch{{}}; return l })
	change("branches in another order", func(l []api.Record) []api.Record {
		l[2].Branches[0], l[2].Branches[1] = l[2].Branches[1], l[2].Branches[0]
		return l
	})
	change("heads in another order", func(l []api.Record) []api.Record { l[2].Branches[2].Heads = short(9, 7); return l })
	change("another change", func(l []api.Record) []api.Record { l[2].Changes[299][31]++; return l })
	change("a change less", func(l []api.Record) []api.Record { l[3].Changes = short(2); return l })
	change("a change more", func(l []api.Record) []api.Record { l[4].Changes = short(0); return l })
	change("changes in another order", func(l []api.Record) []api.Record { l[3].Changes = short(3, 2); return l })
	return m
}

// P17.3: the same records, in the same order, whether they may be or not.
func TestSame(t *testing.T) {
	empty := deep(plant())
	empty[0].Branches, empty[0].Changes, empty[2].Branches[0].Heads = []api.Branch{}, []api.Hash{}, []api.Hash{}
	for what, x := range map[string][2][]api.Record{
		"none":                        {nil, {}},
		"the plant":                   {plant(), deep(plant())},
		"empty lists":                 {plant(), empty},
		"what may not be":             {{{Name: "-"}, {Name: "-"}}, {{Name: "-"}, {Name: "-"}}},
		"lists that do not rise":      {{{Changes: short(2, 1)}}, {{Changes: short(2, 1)}}},
		"branches that do not rise":   {{{Branches: []api.Branch{{Name: "b"}, {Name: "a"}}}}, {{Branches: []api.Branch{{Name: "b"}, {Name: "a"}}}}},
		"records that are too many":   {docs(100), docs(100)},
		"records of too many bytes":   {long("xxxxxxxxx"), long("xxxxxxxxx")},
		"records that have no names":  {{{}, {}}, {{}, {}}},
		"one that has nothing at all": {{{}}, {{}}},
	} {
		if !index.Same(x[0], x[1]) || !index.Same(x[1], x[0]) {
			t.Errorf("Same of %s twice = false", what)
		}
	}
	for what, l := range unlike() {
		if index.Same(l, plant()) || index.Same(plant(), l) {
			t.Errorf("Same of the plant and it with %s = true", what)
		}
		if !index.Same(l, deep(l)) {
			t.Errorf("Same of the plant with %s twice = false", what)
		}
	}
	if index.Same(nil, []api.Record{{}}) || index.Same([]api.Record{{}}, nil) {
		t.Error("Same of none and one = true")
	}
	if index.Same([]api.Record{{Changes: short(1, 1)}}, []api.Record{{Changes: short(1)}}) {
		t.Error("lists are compared as sets")
	}
}
