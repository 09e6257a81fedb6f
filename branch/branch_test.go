package branch_test

import (
	"slices"
	"strconv"
	"strings"
	"testing"

	"stemma/api"
	"stemma/branch"
	"stemma/sha"
)

// short tells the hashes that begin with these bytes, and have noughts behind.
func short(firsts ...byte) []api.Hash {
	var l []api.Hash
	for _, b := range firsts {
		l = append(l, api.Hash{b})
	}
	return l
}

// many tells n hashes that rise.
func many(n int) []api.Hash {
	var l []api.Hash
	for i := range n {
		l = append(l, api.Hash{31: byte(i)})
	}
	return l
}

// told tells branches as a text, all of each.
func told(l []api.Branch) string {
	var words []string
	for _, b := range l {
		word := strconv.Quote(b.Name)
		for _, h := range b.Heads {
			word += " " + sha.Hex(h)
		}
		words = append(words, word)
	}
	return strings.Join(words, ", ")
}

// alike tells whether branches are the same, without asking the package.
func alike(a, b []api.Branch) bool {
	return slices.EqualFunc(a, b, func(x, y api.Branch) bool { return x.Name == y.Name && slices.Equal(x.Heads, y.Heads) })
}

// expectTable asks for a table's branches, all of them and one by one.
func expectTable(t *testing.T, what string, table *branch.Table, want ...api.Branch) {
	t.Helper()
	if got := table.List(); !alike(got, want) {
		t.Errorf("%s: List = %s\nwant %s", what, told(got), told(want))
	}
	for _, b := range want {
		if got, e := table.Heads(b.Name); e != api.OK || !slices.Equal(got, b.Heads) {
			t.Errorf("%s: Heads(%s) = %d hashes, %d, want %d hashes, or others", what, b.Name, len(got), int(e), len(b.Heads))
		}
	}
}

// expectErrno asks for an answer.
func expectErrno(t *testing.T, what string, got, want api.Errno) {
	t.Helper()
	if got != want {
		t.Errorf("%s = %d, want %d", what, int(got), int(want))
	}
}

// expectNoHeads asks for an error in the place of heads.
func expectNoHeads(t *testing.T, table *branch.Table, name string, want api.Errno) {
	t.Helper()
	got, e := table.Heads(name)
	expectErrno(t, "Heads("+strconv.Quote(name)+")", e, want)
	if len(got) != 0 {
		t.Errorf("Heads(%q) = %d hashes beside an error", name, len(got))
	}
}

// load tells the table of branches that may be.
func load(t *testing.T, l ...api.Branch) *branch.Table {
	t.Helper()
	table, e := branch.Load(l)
	if e != api.OK || table == nil {
		t.Fatalf("Load of %s = %d", told(l), int(e))
	}
	return table
}

// full tells as many branches as a table has room for, each with heads of its own.
func full() []api.Branch {
	var l []api.Branch
	for i := range api.MaxBranches {
		l = append(l, api.Branch{Name: "b" + strconv.Itoa(100+i), Heads: short(byte(i), byte(i+1))})
	}
	return l
}

// noNames are texts that are no names.
func noNames() []string {
	return []string{"", "-", " ", "a b", "a/b", "a\x00", "ä", "\xff", "a,b", strings.Repeat("n", api.MaxName+1), strings.Repeat("n", 100000)}
}

// noHeads are lists that may not be heads.
func noHeads() [][]api.Hash {
	last := api.Hash{1}
	last[31] = 1
	return [][]api.Hash{
		short(2, 1), short(1, 1), short(1, 3, 2), short(1, 2, 2), short(0, 0), short(0x80, 0x7f), {last, {1}},
		many(api.MaxDeps + 1), many(256), make([]api.Hash, api.MaxDeps+1), append(many(api.MaxDeps), api.Hash{}),
	}
}

// someHeads are lists that may be heads.
func someHeads() [][]api.Hash {
	last := api.Hash{1}
	last[31] = 1
	return [][]api.Hash{nil, {}, short(0), short(9), short(1, 2), short(0, 0x7f, 0x80, 0xff), {{1}, last}, many(2), many(api.MaxDeps - 1), many(api.MaxDeps)}
}

// The chapter's example.
func TestExample(t *testing.T) {
	b := branch.New()
	expectErrno(t, "Create(a, none)", b.Create("a", nil), api.OK)
	expectErrno(t, "Move(a, 1..)", b.Move("a", short(1)), api.OK)
	expectTable(t, "behind Move", b, api.Branch{Name: "a", Heads: short(1)})
	expectErrno(t, "Create(a, none)", b.Create("a", nil), api.ErrThere)
	expectErrno(t, "Move(b, none)", b.Move("b", nil), api.ErrBranch)
	expectErrno(t, "Create(empty name, none)", b.Create("", nil), api.ErrName)
	expectErrno(t, "Create(c, (2.., 1..))", b.Create("c", short(2, 1)), api.ErrDeps)
	expectTable(t, "behind what was refused", b, api.Branch{Name: "a", Heads: short(1)})
}

// P15.3: a new table has no branches, main neither.
func TestNew(t *testing.T) {
	b := branch.New()
	if b == nil {
		t.Fatal("New tells nil")
	}
	expectTable(t, "New", b)
	expectNoHeads(t, b, "main", api.ErrBranch)
	expectErrno(t, "Move", b.Move("main", nil), api.ErrBranch)
	expectErrno(t, "Delete", b.Delete("main"), api.ErrBranch)
	expectErrno(t, "Create", branch.New().Create("main", nil), api.OK)
	expectTable(t, "New behind Create in another one", b)
}

// P15.1, P15.2: no table, ahead of all other errors.
func TestNil(t *testing.T) {
	var none *branch.Table
	for _, name := range append(noNames(), "a") {
		for _, heads := range append(noHeads(), nil, short(1)) {
			expectErrno(t, "Create", none.Create(name, heads), api.ErrNil)
			expectErrno(t, "Move", none.Move(name, heads), api.ErrNil)
		}
		expectErrno(t, "Delete", none.Delete(name), api.ErrNil)
		expectNoHeads(t, none, name, api.ErrNil)
	}
	if l := none.List(); len(l) != 0 {
		t.Errorf("List = %s", told(l))
	}
	if fork := none.Fork(); fork != nil {
		t.Error("a fork of nil is not nil")
	}
}

// P15.1: names that may be, the shortest, the longest and the odd ones, and that they are told as they are.
func TestCreateNames(t *testing.T) {
	for _, name := range []string{"a", "Z", "0", ".", "_", "--", "-a", "a-", "main", "Main_2.x-y", strings.Repeat("n", api.MaxName)} {
		b := branch.New()
		expectErrno(t, "Create of "+name, b.Create(name, short(1)), api.OK)
		expectTable(t, name, b, api.Branch{Name: name, Heads: short(1)})
	}
	for _, name := range noNames() {
		b := load(t, api.Branch{Name: "a"})
		for _, heads := range append(noHeads(), nil, short(1)) { // ahead of heads that may not be
			expectErrno(t, "Create of "+strconv.Quote(name), b.Create(name, heads), api.ErrName)
		}
		expectTable(t, strconv.Quote(name), b, api.Branch{Name: "a"})
		expectNoHeads(t, b, name, api.ErrBranch)
	}
}

// P15.1: heads that may be, and those that may not, for Create and for Move.
func TestHeadsThatMayBe(t *testing.T) {
	for i, heads := range someHeads() {
		made, moved := branch.New(), load(t, api.Branch{Name: "a", Heads: short(3, 4)})
		expectErrno(t, "Create with heads "+strconv.Itoa(i), made.Create("a", heads), api.OK)
		expectErrno(t, "Move to heads "+strconv.Itoa(i), moved.Move("a", heads), api.OK)
		expectTable(t, "Create", made, api.Branch{Name: "a", Heads: heads})
		expectTable(t, "Move", moved, api.Branch{Name: "a", Heads: heads})
	}
	for i, heads := range noHeads() {
		b := load(t, api.Branch{Name: "a", Heads: short(3, 4)})
		expectErrno(t, "Create with wrong heads "+strconv.Itoa(i), b.Create("b", heads), api.ErrDeps)
		expectErrno(t, "Create of what is there with wrong heads "+strconv.Itoa(i), b.Create("a", heads), api.ErrDeps)
		expectErrno(t, "Move to wrong heads "+strconv.Itoa(i), b.Move("a", heads), api.ErrDeps)
		expectErrno(t, "Move of what is not there to wrong heads "+strconv.Itoa(i), b.Move("b", heads), api.ErrBranch)
		expectTable(t, "behind wrong heads", b, api.Branch{Name: "a", Heads: short(3, 4)})
	}
}

// P15.1: what is there is not made again, whatever its heads are.
func TestCreateThere(t *testing.T) {
	want := []api.Branch{{Name: "a", Heads: short(1)}, {Name: "b"}}
	b := load(t, want...)
	for _, heads := range someHeads() {
		expectErrno(t, "Create(a)", b.Create("a", heads), api.ErrThere)
		expectErrno(t, "Create(b)", b.Create("b", heads), api.ErrThere)
	}
	expectTable(t, "behind ErrThere", b, want...)
	expectErrno(t, "Create(A)", b.Create("A", nil), api.OK) // another name: letters are not taken for one another
	expectTable(t, "behind Create(A)", b, api.Branch{Name: "A"}, want[0], want[1])
}

// P15.1: a table with as many branches as it may have, and which errors come ahead of ErrFull.
func TestFull(t *testing.T) {
	want := full()
	b := branch.New()
	for i, x := range slices.Backward(want) {
		expectErrno(t, "Create with "+strconv.Itoa(i)+" more to come", b.Create(x.Name, x.Heads), api.OK)
	}
	expectErrno(t, "Create of one more", b.Create("new", nil), api.ErrFull)
	expectErrno(t, "Create of one more with heads", b.Create("a", many(api.MaxDeps)), api.ErrFull)
	expectErrno(t, "Create without a name", b.Create("", nil), api.ErrName)
	expectErrno(t, "Create with wrong heads", b.Create("new", short(2, 1)), api.ErrDeps)
	expectErrno(t, "Create of what is there", b.Create(want[9].Name, nil), api.ErrThere)
	expectErrno(t, "Create of what is there with wrong heads", b.Create(want[9].Name, short(2, 1)), api.ErrDeps)
	expectErrno(t, "Move of what is not there", b.Move("new", nil), api.ErrBranch)
	expectErrno(t, "Delete of what is not there", b.Delete("new"), api.ErrBranch)
	expectTable(t, "full", b, want...)
	want[9].Heads = short(7)
	expectErrno(t, "Move", b.Move(want[9].Name, short(7)), api.OK)
	expectTable(t, "full, behind Move", b, want...)
	expectErrno(t, "Delete", b.Delete(want[20].Name), api.OK)
	expectErrno(t, "Create behind Delete", b.Create("a", short(8)), api.OK)
	expectErrno(t, "Create of one more behind Delete", b.Create("new", nil), api.ErrFull)
	want = slices.Insert(slices.Delete(want, 20, 21), 0, api.Branch{Name: "a", Heads: short(8)})
	expectTable(t, "full again", b, want...)
}

// P15.1: Move makes no branch, and forgets the heads that were.
func TestMove(t *testing.T) {
	b := load(t, api.Branch{Name: "a", Heads: short(1)}, api.Branch{Name: "b", Heads: short(2)})
	for _, name := range append(noNames(), "c", "A", "aa", "main") {
		expectErrno(t, "Move of "+strconv.Quote(name), b.Move(name, short(3)), api.ErrBranch)
	}
	expectTable(t, "behind ErrBranch", b, api.Branch{Name: "a", Heads: short(1)}, api.Branch{Name: "b", Heads: short(2)})
	for _, heads := range [][]api.Hash{short(1, 2, 3), short(2), short(4, 5), nil, short(6), short(6), {}} {
		expectErrno(t, "Move", b.Move("a", heads), api.OK)
		expectTable(t, "behind Move", b, api.Branch{Name: "a", Heads: heads}, api.Branch{Name: "b", Heads: short(2)})
	}
}

// P15.1: what is deleted is not there, and may be made again, with nothing of what it was.
func TestDelete(t *testing.T) {
	b := load(t, api.Branch{Name: "a", Heads: short(1)}, api.Branch{Name: "b", Heads: short(2)})
	for _, name := range append(noNames(), "c", "A", "aa", "main") {
		expectErrno(t, "Delete of "+strconv.Quote(name), b.Delete(name), api.ErrBranch)
		expectNoHeads(t, b, name, api.ErrBranch)
	}
	expectTable(t, "behind ErrBranch", b, api.Branch{Name: "a", Heads: short(1)}, api.Branch{Name: "b", Heads: short(2)})
	expectErrno(t, "Delete(a)", b.Delete("a"), api.OK)
	expectErrno(t, "Delete(a) again", b.Delete("a"), api.ErrBranch)
	expectErrno(t, "Move(a) behind Delete", b.Move("a", short(3)), api.ErrBranch)
	expectNoHeads(t, b, "a", api.ErrBranch)
	expectTable(t, "behind Delete", b, api.Branch{Name: "b", Heads: short(2)})
	expectErrno(t, "Create(a) behind Delete", b.Create("a", nil), api.OK)
	expectTable(t, "behind Create", b, api.Branch{Name: "a"}, api.Branch{Name: "b", Heads: short(2)})
	expectErrno(t, "Delete(b)", b.Delete("b"), api.OK)
	expectErrno(t, "Delete(a)", b.Delete("a"), api.OK)
	expectTable(t, "behind all are deleted", b)
}

// P15.2: List goes by the bytes of the names, in whatever order the branches came.
func TestListOrder(t *testing.T) {
	names := []string{"--", "-a", ".", "0", "10", "9", "A", "B", "Z", "_", "a", "a-", "a.b", "a0", "aA", "aa", "ab", "b"}
	for step := range len(names) {
		b := branch.New()
		for i := range names {
			name := names[(i*5+step)%len(names)]
			expectErrno(t, "Create of "+name, b.Create(name, short(name[0])), api.OK)
		}
		var want []api.Branch
		for _, name := range names {
			want = append(want, api.Branch{Name: name, Heads: short(name[0])})
		}
		expectTable(t, "from "+strconv.Itoa(step), b, want...)
	}
}

// P15.2: what is done with a fork is not to be seen in what it is of, nor the other way round.
func TestFork(t *testing.T) {
	a, b := api.Branch{Name: "a", Heads: short(1)}, api.Branch{Name: "b", Heads: short(2, 3)}
	table := load(t, a, b)
	left, right := table.Fork(), table.Fork()
	expectErrno(t, "Delete in one", left.Delete("a"), api.OK)
	expectErrno(t, "Create in one", left.Create("c", short(4)), api.OK)
	expectErrno(t, "Move in one", left.Move("b", short(5)), api.OK)
	again := left.Fork()
	expectErrno(t, "Delete in the first one", table.Delete("b"), api.OK)
	expectErrno(t, "Move in the first one", table.Move("a", nil), api.OK)
	expectTable(t, "the first one", table, api.Branch{Name: "a"})
	expectTable(t, "one fork", left, api.Branch{Name: "b", Heads: short(5)}, api.Branch{Name: "c", Heads: short(4)})
	expectTable(t, "the other fork", right, a, b)
	expectTable(t, "a fork's fork", again, api.Branch{Name: "b", Heads: short(5)}, api.Branch{Name: "c", Heads: short(4)})
	empty := branch.New()
	fork := empty.Fork()
	expectTable(t, "a fork of nothing", fork)
	expectErrno(t, "Create in a fork of nothing", fork.Create("a", nil), api.OK)
	expectTable(t, "nothing, behind its fork", empty)
	expectTable(t, "a full fork", load(t, full()...).Fork(), full()...)
	expectErrno(t, "Create in a full fork", load(t, full()...).Fork().Create("new", nil), api.ErrFull)
}

// P15.2: lists that are the same, and lists unlike in one thing, those that may not be among them.
func TestSame(t *testing.T) {
	a, b := api.Branch{Name: "a", Heads: short(1, 2)}, api.Branch{Name: "b"}
	last := short(1, 2)
	last[1][31] = 1
	lists := [][]api.Branch{
		nil, {a}, {b}, {a, b}, {b, a}, {a, a}, {a, b, b}, {a, a, b}, {{}}, {{}, {}}, {{Name: "-"}},
		{{Name: "b", Heads: short(1, 2)}}, {{Name: "a"}}, {{Name: "a", Heads: short(1)}}, {{Name: "a", Heads: short(2)}},
		{{Name: "a", Heads: short(2, 1)}}, {{Name: "a", Heads: short(1, 2, 2)}}, {{Name: "a", Heads: last}}, {{Name: "a", Heads: short(0)}},
		{{Name: "A", Heads: short(1, 2)}}, {{Name: "aa", Heads: short(1, 2)}}, {{Heads: short(1, 2)}},
		{{Name: "a", Heads: short(1)}, {Name: "b", Heads: short(2)}}, {{Name: "a", Heads: short(2)}, {Name: "b", Heads: short(1)}},
	}
	for i, x := range lists {
		for j, y := range lists {
			if got := branch.Same(x, y); got != (i == j) {
				t.Errorf("Same(%s; %s) = %t", told(x), told(y), got)
			}
		}
		var copied []api.Branch
		for _, b := range x {
			copied = append(copied, api.Branch{Name: strings.Clone(b.Name), Heads: slices.Clone(b.Heads)})
		}
		if !branch.Same(x, copied) || !branch.Same(copied, x) {
			t.Errorf("%s is not the same as a copy", told(x))
		}
	}
	if !branch.Same(nil, []api.Branch{}) || !branch.Same([]api.Branch{b}, []api.Branch{{Name: "b", Heads: []api.Hash{}}}) {
		t.Error("none is told apart from none")
	}
}

// P15.3: lists that may be, up to the most branches with the most heads.
func TestLoad(t *testing.T) {
	most := full()
	for i := range most {
		most[i].Heads = many(api.MaxDeps)
	}
	lists := [][]api.Branch{nil, {}, {{Name: "a"}}, {{Name: "A"}, {Name: "a"}}, {{Name: "a"}, {Name: "a-"}, {Name: "aa"}}, {{Name: strings.Repeat("n", api.MaxName)}}, full()[1:], full(), most}
	for _, heads := range someHeads() {
		lists = append(lists, []api.Branch{{Name: "a", Heads: heads}, {Name: "b"}, {Name: "c", Heads: heads}})
	}
	for _, l := range lists {
		b := load(t, l...)
		expectTable(t, "Load", b, l...)
		if !branch.Same(b.List(), l) {
			t.Errorf("List is not the same as %s", told(l))
		}
	}
}

// P15.3: lists that may not be tell ErrForm and no table, wherever the fault stands.
func TestLoadForm(t *testing.T) {
	good := full()[:9]
	lists := [][]api.Branch{
		append(full(), api.Branch{Name: "z"}), append([]api.Branch{{Name: "a"}}, full()...), make([]api.Branch, api.MaxBranches+1),
		{{Name: "b"}, {Name: "a"}}, {{Name: "a"}, {Name: "a"}}, {{Name: "a"}, {Name: "A"}}, {{Name: "aa"}, {Name: "a"}},
		{{Name: "a", Heads: short(1)}, {Name: "a", Heads: short(1)}}, {{Name: "a"}, {Name: "c"}, {Name: "b"}}, {{Name: "a"}, {Name: "b"}, {Name: "a"}},
	}
	for _, at := range []int{0, 4, len(good)} {
		for _, name := range noNames() {
			lists = append(lists, slices.Insert(slices.Clone(good), at, api.Branch{Name: name}))
		}
	}
	for at := range good {
		for _, heads := range noHeads() {
			wrong := slices.Clone(good)
			wrong[at].Heads = heads
			lists = append(lists, wrong)
		}
	}
	for _, l := range lists {
		if table, e := branch.Load(l); table != nil || e != api.ErrForm {
			t.Errorf("Load of %s = %d, a table: %t", told(l), int(e), table != nil)
		}
	}
}
