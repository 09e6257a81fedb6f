package change_test

import (
	"math"
	"slices"
	"strings"
	"testing"

	"stemma/api"
	"stemma/change"
	"stemma/sha"
)

// plain tells a change that may be, of the fewest bytes.
func plain() api.Change { return api.Change{Author: "a", Seq: 1, Start: 1} }

// rising tells n hashes that rise.
func rising(n int) []api.Hash {
	l := make([]api.Hash, n)
	for i := range l {
		l[i] = api.Hash{byte(i >> 8), byte(i >> 2), 31: byte(i)}
	}
	return l
}

// times tells n operations like o.
func times(n int, o api.Op) []api.Op { return slices.Repeat([]api.Op{o}, n) }

// expectRefused asks that all calls answer as of a change that may not be.
func expectRefused(t *testing.T, what string, c api.Change, want api.Errno) {
	t.Helper()
	if got := change.Check(c); got != want {
		t.Errorf("%s: Check = %d, want %d", what, int(got), int(want))
	}
	if b, e := change.Put(c); len(b) != 0 || e != want {
		t.Errorf("%s: Put = %.40x, %d; want %d", what, b, int(e), int(want))
	}
	if h := change.Hash(c); h != (api.Hash{}) {
		t.Errorf("%s: Hash = %x, want the zero hash", what, h)
	}
}

// expectMay asks that all calls answer as of a change that may be.
func expectMay(t *testing.T, what string, c api.Change) {
	t.Helper()
	if got := change.Check(c); got != api.OK {
		t.Errorf("%s: Check = %d, want %d", what, int(got), int(api.OK))
	}
	b, e := change.Put(c)
	if len(b) == 0 || e != api.OK {
		t.Errorf("%s: Put = %.40x, %d", what, b, int(e))
	}
	if h := change.Hash(c); h != sha.Sum(b) {
		t.Errorf("%s: Hash = %x, want the sum of Put's bytes", what, h)
	}
}

// P8.1: Author is a name.
func TestCheckAuthor(t *testing.T) {
	for author, may := range map[string]bool{
		"a": true, "a.b_C-9": true, "--": true, strings.Repeat("n", 32): true,
		"": false, "-": false, "a b": false, "ä": false, "a\x00": false, "a,b": false, strings.Repeat("n", 33): false, strings.Repeat("n", 1<<17): false,
	} {
		c := plain()
		c.Author = author
		if may {
			expectMay(t, author, c)
		} else {
			expectRefused(t, "an author", c, api.ErrName)
		}
	}
}

// P8.1: Seq and Start are from 1 to 2^40.
func TestCheckNumbers(t *testing.T) {
	for n, may := range map[int]bool{
		1: true, 2: true, 127: true, 128: true, 1<<40 - 1: true, 1 << 40: true,
		0: false, -1: false, -1 << 40: false, 1<<40 + 1: false, 1 << 41: false, math.MaxInt: false, math.MinInt: false,
	} {
		seq, start := plain(), plain()
		seq.Seq, start.Start = n, n
		if may {
			expectMay(t, "a seq", seq)
			expectMay(t, "a start", start)
		} else {
			expectRefused(t, "a seq", seq, api.ErrSeq)
			expectRefused(t, "a start", start, api.ErrStart)
		}
	}
}

// P8.1: Deps are a rising list of 16 at most.
func TestCheckDeps(t *testing.T) {
	for n := range 17 {
		c := plain()
		c.Deps = rising(n)
		expectMay(t, "deps that rise", c)
		for i := 1; i < n; i++ {
			c.Deps = rising(n)
			c.Deps[i-1], c.Deps[i] = c.Deps[i], c.Deps[i-1]
			expectRefused(t, "two deps in the other order", c, api.ErrDeps)
			c.Deps = rising(n)
			c.Deps[i] = c.Deps[i-1]
			expectRefused(t, "a dep twice", c, api.ErrDeps)
		}
	}
	for _, n := range []int{17, 18, 256, 257, 1000} {
		c := plain()
		c.Deps = rising(n)
		expectRefused(t, "too many deps", c, api.ErrDeps)
		c.Deps = slices.Repeat([]api.Hash{{7}}, n)
		expectRefused(t, "too many deps that do not rise", c, api.ErrDeps)
	}
	c := plain()
	c.Deps = []api.Hash{{}}
	expectMay(t, "the zero hash", c)
}

// P8.1: Note is any bytes, 1024 at most.
func TestCheckNote(t *testing.T) {
	for note, may := range map[string]bool{
		"": true, "hello": true, "\x00\xff\n": true, strings.Repeat("x", 1023): true, strings.Repeat("x", 1024): true, strings.Repeat("ä", 512): true,
		strings.Repeat("x", 1025): false, strings.Repeat("ä", 513): false, strings.Repeat("x", 1<<17): false,
	} {
		c := plain()
		c.Note = note
		if may {
			expectMay(t, "a note", c)
		} else {
			expectRefused(t, "a note", c, api.ErrLong)
		}
	}
}

// P8.1: Ops are some that op.Put lays.
func TestCheckOps(t *testing.T) {
	may := api.Op{Kind: api.OpDel, Name: "a"}
	for _, n := range []int{0, 1, 2, 255, 256} {
		c := plain()
		c.Ops = times(n, may)
		expectMay(t, "operations", c)
		for _, place := range []int{0, n / 2, n - 1} {
			if n > 0 {
				c.Ops = times(n, may)
				c.Ops[place].Name = "-"
				expectRefused(t, "one that may not be", c, api.ErrOp)
			}
		}
	}
	c := plain()
	c.Ops = times(257, may)
	expectRefused(t, "too many", c, api.ErrLong)
	c.Ops = times(257, api.Op{})
	expectRefused(t, "too many that may not be", c, api.ErrLong)
}

// asLong tells a change of 2^16 bytes, as many as may be: 7 of an Author, a Seq, a Start, no Deps and no Note,
// 15 of what is told of 64 puts ahead of their texts, 63 texts of 2 and 1024 bytes, and one of 2 and 874.
func asLong() api.Change {
	c := plain()
	c.Ops = times(64, api.Op{Kind: api.OpPut, Name: "k", Text: strings.Repeat("x", 1024)})
	c.Ops[63].Text = strings.Repeat("y", 874)
	return c
}

// tooLong tells changes that are too long by one byte, or by one part, each by another field.
func tooLong() map[string]api.Change {
	all := make(map[string]api.Change)
	by := func(what string, lengthen func(c *api.Change)) {
		c := asLong()
		lengthen(&c)
		all[what] = c
	}
	by("a text", func(c *api.Change) { c.Ops[63].Text += "y" })
	by("an author", func(c *api.Change) { c.Author = "aa" })
	by("a seq", func(c *api.Change) { c.Seq = 128 })
	by("a start", func(c *api.Change) { c.Start = 128 })
	by("a dep", func(c *api.Change) { c.Deps = rising(1) })
	by("a note", func(c *api.Change) { c.Note = "n" })
	by("a name", func(c *api.Change) { c.Ops[63].Name = "kk" })
	by("an operation", func(c *api.Change) { c.Ops = append(c.Ops, api.Op{Kind: api.OpDel, Name: "k"}) })
	by("all operations that may be", func(c *api.Change) { c.Ops = times(256, c.Ops[0]) })
	return all
}

// P8.1: the bytes are 2^16 at most.
func TestCheckBytes(t *testing.T) {
	expectMay(t, "as long as may be", asLong())
	if b, _ := change.Put(asLong()); len(b) != 1<<16 {
		t.Errorf("the longest change has %d bytes", len(b))
	}
	for what, c := range tooLong() {
		expectRefused(t, "too long by "+what, c, api.ErrLong)
	}
}

// P8.1: where several apply, the answer is the one that is named first: all wrongs, with and without all others.
func TestCheckOrder(t *testing.T) {
	wrongs := []struct {
		do   func(c *api.Change)
		want api.Errno
	}{
		{func(c *api.Change) { c.Author = "" }, api.ErrName},
		{func(c *api.Change) { c.Seq = 0 }, api.ErrSeq},
		{func(c *api.Change) { c.Start = 1<<40 + 1 }, api.ErrStart},
		{func(c *api.Change) { c.Deps = []api.Hash{{2}, {1}} }, api.ErrDeps},
		{func(c *api.Change) { c.Note = strings.Repeat("n", 1025) }, api.ErrLong},
		{func(c *api.Change) { c.Ops = append(c.Ops, api.Op{}) }, api.ErrOp},
		{func(c *api.Change) {
			c.Ops = append(times(64, api.Op{Kind: api.OpPut, Name: "k", Text: strings.Repeat("x", 1024)}), c.Ops...)
		}, api.ErrLong},
	}
	for chosen := range 1 << len(wrongs) {
		c, want := plain(), api.OK
		for i, wrong := range wrongs {
			if chosen>>i&1 == 1 {
				wrong.do(&c)
				if want == api.OK {
					want = wrong.want
				}
			}
		}
		if want == api.OK {
			expectMay(t, "nothing wrong", c)
		} else {
			expectRefused(t, "several wrongs", c, want)
		}
	}
}

// P8.1: the chapter's example, and all fields wrong.
func TestCheckExamples(t *testing.T) {
	expectRefused(t, "the zero change", api.Change{}, api.ErrName)
	expectMay(t, "the least change", plain())
	expectRefused(t, "all wrong", api.Change{Author: "-", Seq: -1, Start: -1, Deps: make([]api.Hash, 99), Note: strings.Repeat("n", 9999), Ops: make([]api.Op, 999)}, api.ErrName)
}

// P8.4: sums that another program worked out.
func TestHash(t *testing.T) {
	for _, x := range []struct {
		c    api.Change
		want string
	}{
		{plain(), "cad7085096c4c78c43ced85e35e881c515ca9dcd57812fe69e6e4ea1e6582745"},
		{asLong(), "e9b70f354a2990fb712beb58d72da0782a11c7ac7ff7c4d02614fad3f4c6b2d1"},
	} {
		if got := sha.Hex(change.Hash(x.c)); got != x.want {
			t.Errorf("Hash(%.80v) = %s, want %s", x.c, got, x.want)
		}
	}
	for _, s := range samples() {
		if got := change.Hash(s.change); got != sha.Sum([]byte(s.laid())) {
			t.Errorf("Hash(%.80v) = %x, which is not the sum of its bytes", s.change, got)
		}
	}
}

// P8.4: Size is the sum of the operations' sizes, whether the change may be or not.
func TestSize(t *testing.T) {
	ins := func(text string) api.Op { return api.Op{Kind: api.OpIns, Name: "t", Text: text} }
	for _, x := range []struct {
		ops  []api.Op
		want int
	}{
		{[]api.Op{ins("abc"), {Kind: api.OpDel, Name: "k"}}, 4},
		{nil, 0},
		{[]api.Op{}, 0},
		{[]api.Op{ins("a")}, 1},
		{[]api.Op{ins("")}, 0},
		{[]api.Op{ins("ä")}, 2},
		{[]api.Op{{Kind: api.OpPut, Name: "k", Text: "abc"}, {Kind: api.OpAdd, Name: "c", By: 7}, {Kind: api.OpCut, Name: "t", By: 5}, {}}, 4},
		{[]api.Op{{Kind: api.OpCut, Name: "t", By: 5}, ins("ab"), ins("cde")}, 6},
		{times(256, ins(strings.Repeat("x", 1024))), 1 << 18},
		{times(1000, api.Op{Kind: -1}), 1000},
	} {
		for _, c := range []api.Change{{}, plain(), {Author: "b", Seq: 9, Start: 77, Deps: rising(3), Note: "abc"}} {
			c.Ops = x.ops
			if got := change.Size(c); got != x.want {
				t.Errorf("Size(%.80v) = %d, want %d", c, got, x.want)
			}
		}
	}
}

// P8.4: changes differ by any field, whether they may be or not.
func TestSame(t *testing.T) {
	whole := api.Change{Author: "a", Seq: 2, Start: 3, Deps: rising(2), Note: "n", Ops: []api.Op{{Kind: api.OpDel, Name: "k"}}}
	unlike := []api.Change{whole, {}, plain()}
	with := func(alter func(c *api.Change)) {
		c := whole
		alter(&c)
		unlike = append(unlike, c)
	}
	with(func(c *api.Change) { c.Author = "A" })
	with(func(c *api.Change) { c.Author = "" })
	with(func(c *api.Change) { c.Seq = 3 })
	with(func(c *api.Change) { c.Seq = -2 })
	with(func(c *api.Change) { c.Start = 2 })
	with(func(c *api.Change) { c.Seq, c.Start = 3, 2 })
	with(func(c *api.Change) { c.Deps = nil })
	with(func(c *api.Change) { c.Deps = rising(3) })
	with(func(c *api.Change) { c.Deps = rising(1) })
	with(func(c *api.Change) { c.Deps = []api.Hash{{31: 1}, {}} })
	with(func(c *api.Change) { c.Note = "" })
	with(func(c *api.Change) { c.Note = "N" })
	with(func(c *api.Change) { c.Author, c.Note = "n", "a" })
	with(func(c *api.Change) { c.Ops = nil })
	with(func(c *api.Change) { c.Ops = []api.Op{{Kind: api.OpDel, Name: "K"}} })
	with(func(c *api.Change) { c.Ops = []api.Op{{Kind: api.OpDel, Name: "k", By: 1}} })
	with(func(c *api.Change) { c.Ops = times(2, whole.Ops[0]) })
	for i, a := range unlike {
		for j, b := range unlike {
			b.Deps, b.Ops = slices.Clone(b.Deps), slices.Clone(b.Ops)
			if change.Same(a, b) != (i == j) {
				t.Errorf("Same(%v, %v) = %t", a, b, i != j)
			}
		}
	}
	empty := plain()
	empty.Deps, empty.Ops = []api.Hash{}, []api.Op{}
	if !change.Same(empty, plain()) || !change.Same(plain(), empty) {
		t.Error("empty lists and none are the same")
	}
}
