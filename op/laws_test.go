package op_test

import (
	"slices"
	"strings"
	"testing"

	"stemma/api"
	"stemma/op"
)

// row is a row of numbers that looks like one without a rule, and is the same at each run.
type row uint64

// below tells the row's next number, from 0 to n - 1.
func (r *row) below(n int) int {
	*r = *r*6364136223846793005 + 1442695040888963407
	return int(uint64(*r) >> 33 % uint64(n))
}

// of tells one of these.
func (r *row) of(l ...int) int { return l[r.below(len(l))] }

// text tells a text of from least bytes on.
func (r *row) text(least int) string {
	b := make([]byte, least+r.of(0, 0, 1, 2, 7, 130, 1024-least))
	for i := range b {
		b[i] = byte(r.below(256))
	}
	return string(b)
}

// one tells an operation that may be.
func (r *row) one() api.Op {
	name := []string{"a", "b", "B", "a.b", strings.Repeat("n", 32)}[r.below(5)]
	place := r.of(0, 1, 2, 3, 64, 1<<40-1, 1<<40, r.below(1<<30))
	switch kind := 1 + r.below(5); kind {
	case api.OpPut:
		return api.Op{Kind: kind, Name: name, Text: r.text(0)}
	case api.OpDel:
		return api.Op{Kind: kind, Name: name}
	case api.OpAdd:
		return api.Op{Kind: kind, Name: name, By: r.of(0, 1, -1, 63, 64, -64, -65, 1<<31, -1<<31, r.below(1<<30))}
	case api.OpIns:
		return api.Op{Kind: kind, Name: name, Pos: place, Text: r.text(1)}
	default:
		return api.Op{Kind: kind, Name: name, Pos: place, By: r.of(1, 2, 1024)}
	}
}

// many tells up to n operations that may be, some of them one behind the other alike.
func (r *row) many(n int) []api.Op {
	var l []api.Op
	for range r.below(n + 1) {
		o := r.one()
		l = append(l, times(min(r.of(1, 1, 1, 2, 3), n-len(l)), o)...)
	}
	return l
}

// P7.5: Get of Put tells the operations.
func TestGetOfPut(t *testing.T) {
	r := row(7)
	for i := range 1500 {
		n := 12
		if i%50 == 0 {
			n = 256
		}
		l := r.many(n)
		b, e := op.Put(l)
		if e != api.OK {
			t.Fatalf("Put(%.300v): %d", l, int(e))
		}
		expectGet(t, string(b), l)
		expectForm(t, "with a tail", string(b)+"\x00")
		expectForm(t, "cut off", string(b[:r.below(len(b))]))
	}
}

// expectOneWay asks that bytes are refused, or are those that Put lays of what they tell.
func expectOneWay(t *testing.T, b []byte) (taken bool) {
	t.Helper()
	l, e := op.Get(b)
	if e != api.OK {
		if e != api.ErrForm || len(l) != 0 {
			t.Fatalf("Get(%.80x) = %.200v, %d", b, l, int(e))
		}
		return false
	}
	if laid, e := op.Put(l); string(laid) != string(b) || e != api.OK {
		t.Fatalf("Get(%.80x) = %.200v, but these are laid as %.80x, %d", b, l, laid, int(e))
	}
	return true
}

// P7.5: there is one way alone. Each byte of what is laid is every other byte, or is doubled, left out or laid longer.
func TestOneWayNearWhatIsLaid(t *testing.T) {
	for _, s := range samples() {
		whole := s.laid()
		if len(whole) > 600 {
			continue
		}
		for i := range len(whole) {
			b := []byte(whole)
			for c := range 256 {
				b[i] = byte(c)
				expectOneWay(t, b)
			}
			expectOneWay(t, []byte(whole[:i]+whole[i+1:]))
			expectOneWay(t, []byte(whole[:i+1]+whole[i:]))
			for _, last := range []string{"\x00", "\x7f"} { // a group more, of a number that is 0 or above, or is below 0
				expectOneWay(t, []byte(whole[:i]+string([]byte{whole[i] | 0x80})+last+whole[i+1:]))
			}
		}
	}
}

// P7.5: parts of what is laid, put together in any way.
func TestOneWayOfMixedParts(t *testing.T) {
	var pools [6][]string
	for _, s := range samples() {
		for i, part := range s.parts {
			if len(part) < 600 && !slices.Contains(pools[i], part) {
				pools[i] = append(pools[i], part)
			}
		}
	}
	r := row(11)
	taken := 0
	for range 200000 {
		var b []byte
		for _, pool := range pools {
			b = append(b, pool[r.below(len(pool))]...)
		}
		if expectOneWay(t, b) {
			taken++
		}
	}
	if taken == 0 {
		t.Error("none was taken, so nothing was asked")
	}
}

// P7.5: all short bytes of a few numbers, and any bytes.
func TestOneWayOfAnyBytes(t *testing.T) {
	r := row(13)
	for n := range 9 {
		b := make([]byte, n)
		for range 20000 {
			for i := range b {
				b[i] = byte(r.of(0, 1, 1, 2, 3, 4, 5, 'a', 0x7f, 0x80, 0xff, r.below(256)))
			}
			expectOneWay(t, b)
		}
	}
	for range 3000 {
		b := make([]byte, r.below(300))
		for i := range b {
			b[i] = byte(r.below(256))
		}
		expectOneWay(t, b)
	}
}

// P7.5: unlike lists are laid as unlike bytes: all of up to three of a few operations.
func TestUnlikeListsHaveUnlikeBytes(t *testing.T) {
	pool := []api.Op{
		{Kind: api.OpPut, Name: "a"}, {Kind: api.OpPut, Name: "a", Text: "a"}, {Kind: api.OpPut, Name: "b", Text: "a"}, {Kind: api.OpPut, Name: "a", Text: "\x01a"},
		{Kind: api.OpDel, Name: "a"}, {Kind: api.OpDel, Name: "b"}, {Kind: api.OpDel, Name: "ab"},
		{Kind: api.OpAdd, Name: "a"}, {Kind: api.OpAdd, Name: "a", By: 1}, {Kind: api.OpAdd, Name: "b", By: -1},
		{Kind: api.OpIns, Name: "a", Text: "a"}, {Kind: api.OpIns, Name: "a", Pos: 1, Text: "a"}, {Kind: api.OpIns, Name: "b", Text: "aa"},
		{Kind: api.OpCut, Name: "a", By: 1}, {Kind: api.OpCut, Name: "a", Pos: 1, By: 1}, {Kind: api.OpCut, Name: "b", By: 2},
	}
	lists := [][]api.Op{nil}
	for i := 0; i < len(lists); i++ {
		if len(lists[i]) == 3 {
			break // all of fewer are gone through
		}
		for _, o := range pool {
			lists = append(lists, append(slices.Clone(lists[i]), o))
		}
	}
	seen := make(map[string]int)
	for i, l := range lists {
		b, e := op.Put(l)
		if e != api.OK {
			t.Fatalf("Put(%v): %d", l, int(e))
		}
		if j, there := seen[string(b)]; there {
			t.Fatalf("%v and %v are both laid as %x", l, lists[j], b)
		}
		seen[string(b)] = i
		expectGet(t, string(b), l)
	}
	if want := 1 + 16 + 16*16 + 16*16*16; len(lists) != want {
		t.Errorf("%d lists were asked, want %d", len(lists), want)
	}
}
