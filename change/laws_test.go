package change_test

import (
	"slices"
	"strings"
	"testing"

	"stemma/api"
	"stemma/change"
	"stemma/sha"
)

// row is a row of numbers that looks like one without a rule, and is the same at each run.
type row uint64

// below tells the row's next number, from 0 to n - 1.
func (r *row) below(n int) int {
	*r = *r*6364136223846793005 + 1442695040888963407
	return int(uint64(*r) >> 33 % uint64(n))
}

// of tells one of these.
func (r *row) of(l ...int) int { return l[r.below(len(l))] }

// text tells a text of n bytes.
func (r *row) text(n int) string {
	b := make([]byte, n)
	for i := range b {
		b[i] = byte(r.below(256))
	}
	return string(b)
}

// name tells a name.
func (r *row) name() string {
	return []string{"a", "b", "B", "a.b", "--", strings.Repeat("n", 32)}[r.below(6)]
}

// deps tells a rising list of n hashes.
func (r *row) deps(n int) []api.Hash {
	l := make([]api.Hash, n)
	for i := range l {
		l[i] = api.Hash([]byte(r.text(32)))
	}
	slices.SortFunc(l, func(a, b api.Hash) int { return strings.Compare(sha.Hex(a), sha.Hex(b)) })
	return l
}

// op tells an operation that may be.
func (r *row) op() api.Op {
	o := api.Op{Kind: 1 + r.below(5), Name: r.name()}
	switch o.Kind {
	case api.OpPut:
		o.Text = r.text(r.of(0, 1, 9, 128))
	case api.OpAdd:
		o.By = r.of(0, 1, -1, 1<<31, -1<<31)
	case api.OpIns:
		o.Pos, o.Text = r.of(0, 1, 64, 1<<40), r.text(r.of(1, 2, 130, 1024))
	case api.OpCut:
		o.Pos, o.By = r.of(0, 1, 64, 1<<40), r.of(1, 2, 1024)
	}
	return o
}

// change tells a change that may be.
func (r *row) change() api.Change {
	c := api.Change{
		Author: r.name(),
		Seq:    r.of(1, 2, 127, 128, 1<<40, 1+r.below(1<<30)),
		Start:  r.of(1, 2, 127, 128, 1<<40, 1+r.below(1<<30)),
		Deps:   r.deps(r.of(0, 1, 2, 3, 16)),
		Note:   r.text(r.of(0, 1, 5, 127, 128, 1024)),
	}
	for range r.of(0, 1, 2, 5, 40) {
		c.Ops = append(c.Ops, r.op())
	}
	return c
}

// P8.5: Get of Put is the change.
func TestGetOfPut(t *testing.T) {
	r := row(8)
	for range 3000 {
		c := r.change()
		b, e := change.Put(c)
		if e != api.OK {
			t.Fatalf("Put(%.300v): %d", c, int(e))
		}
		expectGet(t, string(b), c)
		got, _ := change.Get(b)
		if !change.Same(got, c) || change.Hash(got) != sha.Sum(b) || change.Hash(c) != sha.Sum(b) {
			t.Fatalf("Get(Put(%.300v)) is not the same, or has another hash", c)
		}
		expectForm(t, "with a tail", string(b)+"\x00")
		expectForm(t, "cut off", string(b[:r.below(len(b))]))
	}
}

// expectOneWay asks that bytes are refused, or are those that Put lays of what they tell.
func expectOneWay(t *testing.T, b []byte) (taken bool) {
	t.Helper()
	c, e := change.Get(b)
	if e != api.OK {
		if e != api.ErrForm || !isZero(c) {
			t.Fatalf("Get(%.80x) = %.200v, %d", b, c, int(e))
		}
		return false
	}
	if laid, e := change.Put(c); string(laid) != string(b) || e != api.OK {
		t.Fatalf("Get(%.80x) = %.200v, but that is laid as %.80x, %d", b, c, laid, int(e))
	}
	return true
}

// P8.3, P8.5: each byte of what is laid is every other byte, or is doubled, left out or laid longer.
func TestOneWayNearWhatIsLaid(t *testing.T) {
	for _, s := range samples() {
		whole := s.laid()
		if len(whole) > 600 {
			continue
		}
		for i := range len(whole) {
			b := []byte(whole)
			for c := range 256 {
				b[i] = byte(c)
				expectOneWay(t, b)
			}
			expectOneWay(t, []byte(whole[:i]+whole[i+1:]))
			expectOneWay(t, []byte(whole[:i+1]+whole[i:]))
			for _, last := range []string{"\x00", "\x7f"} { // a group more, of a number that is 0 or above, or is below 0
				expectOneWay(t, []byte(whole[:i]+string([]byte{whole[i] | 0x80})+last+whole[i+1:]))
			}
		}
	}
}

// P8.3, P8.5: parts of what is laid, put together in any way, make changes.
func TestMixedParts(t *testing.T) {
	var pools [7][]string
	for _, s := range samples() {
		for i, part := range s.parts {
			if len(part) < 600 && !slices.Contains(pools[i], part) {
				pools[i] = append(pools[i], part)
			}
		}
	}
	r := row(11)
	for range 20000 {
		var b []byte
		for _, pool := range pools {
			b = append(b, pool[r.below(len(pool))]...)
		}
		if !expectOneWay(t, b) {
			t.Fatalf("Get(%x) is refused", b)
		}
	}
}

// P8.3, P8.5: short bytes of a few numbers, alone and behind the head of a change, and any bytes.
func TestOneWayOfAnyBytes(t *testing.T) {
	r := row(13)
	taken := 0
	for n := range 14 {
		for range 20000 {
			b := []byte("\x01\x01a\x01"[:r.below(5)])
			for range n {
				b = append(b, byte(r.of(0, 0, 0, 0, 1, 1, 2, 'a', 0x7f, 0x80, 0xff, r.below(256))))
			}
			if expectOneWay(t, b) {
				taken++
			}
		}
	}
	if taken == 0 {
		t.Error("none was taken, so nothing was asked")
	}
	for range 3000 {
		expectOneWay(t, []byte(r.text(r.below(300))))
	}
}

// P8.5: unlike changes that may be have unlike bytes, and unlike hashes: all of a few fields.
func TestUnlikeChangesHaveUnlikeBytes(t *testing.T) {
	seen, asked := make(map[string]api.Change), 0
	ask := func(c api.Change) {
		b, e := change.Put(c)
		if e != api.OK {
			t.Fatalf("Put(%v): %d", c, int(e))
		}
		h := change.Hash(c)
		for _, key := range []string{string(b), string(h[:])} {
			if other, there := seen[key]; there {
				t.Fatalf("%v and %v are both told by %x", c, other, key)
			}
			seen[key] = c
		}
		asked++
	}
	for _, author := range []string{"a", "b", "aa", "A", "1"} {
		for _, numbers := range [][2]int{{1, 1}, {1, 2}, {2, 1}, {128, 1}, {1, 128}, {1 << 40, 97}} {
			for _, deps := range [][]api.Hash{nil, {{}}, {{1}}, {{1}, {2}}, {{31: 1}}} {
				for _, note := range []string{"", "a", "\x00", "\x01a", "\x00\x00"} {
					for _, ops := range [][]api.Op{nil, {{Kind: api.OpDel, Name: "a"}}, {{Kind: api.OpPut, Name: "a"}}, {{Kind: api.OpDel, Name: "a"}, {Kind: api.OpDel, Name: "a"}}} {
						ask(api.Change{Author: author, Seq: numbers[0], Start: numbers[1], Deps: deps, Note: note, Ops: ops})
					}
				}
			}
		}
	}
	if asked != 5*6*5*5*4 {
		t.Errorf("%d changes were asked", asked)
	}
}
