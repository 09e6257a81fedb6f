package disk_test

import (
	"math"
	"slices"
	"strconv"
	"strings"
	"testing"

	"stemma/api"
	"stemma/disk"
)

// call is a call that may be a step, ready to be made.
type call struct {
	what string
	on   func(d *disk.Disk) api.Errno
}

func create(name string) call {
	return call{"Create(" + name + ")", func(d *disk.Disk) api.Errno { return d.Create(name) }}
}

func add(name, p string) call {
	return call{"Append(" + name + ", " + p + ")", func(d *disk.Disk) api.Errno { return d.Append(name, []byte(p)) }}
}

func sync(name string) call {
	return call{"Sync(" + name + ")", func(d *disk.Disk) api.Errno { return d.Sync(name) }}
}

func rename(old, now string) call {
	return call{"Rename(" + old + ", " + now + ")", func(d *disk.Disk) api.Errno { return d.Rename(old, now) }}
}

func remove(name string) call {
	return call{"Remove(" + name + ")", func(d *disk.Disk) api.Errno { return d.Remove(name) }}
}

func cut(name string, n int) call {
	return call{"Cut(" + name + ", " + strconv.Itoa(n) + ")", func(d *disk.Disk) api.Errno { return d.Cut(name, n) }}
}

// read is no step, but has errors as they have.
func read(name string) call {
	return call{"Read(" + name + ")", func(d *disk.Disk) api.Errno {
		_, e := d.Read(name)
		return e
	}}
}

// fail is no step, but has errors as they have.
func fail(n int, done bool) call {
	return call{"Fail(" + strconv.Itoa(n) + ")", func(d *disk.Disk) api.Errno { return d.Fail(n, done) }}
}

// callsOf tells each call that takes one name, with this one.
func callsOf(name string) []call {
	return []call{create(name), add(name, ""), sync(name), rename(name, "now"), rename("old", name), rename(name, name), remove(name), cut(name, 0), read(name)}
}

// play makes calls that must go well.
func play(t *testing.T, d *disk.Disk, calls ...call) {
	t.Helper()
	for i, c := range calls {
		if e := c.on(d); e != api.OK {
			t.Fatalf("call %d, %s = %d", i, c.what, int(e))
		}
	}
}

// played tells a disk upon which calls were made that must go well.
func played(t *testing.T, most int, calls ...call) *disk.Disk {
	t.Helper()
	d := disk.New(most)
	play(t, d, calls...)
	return d
}

func expectErrno(t *testing.T, d *disk.Disk, c call, want api.Errno) {
	t.Helper()
	if got := c.on(d); got != want {
		t.Errorf("%s = %d, want %d", c.what, int(got), int(want))
	}
}

// expectFiles asks for all that a disk that runs tells of its files: pairs of a name and its bytes, rising.
func expectFiles(t *testing.T, what string, d *disk.Disk, want ...string) {
	t.Helper()
	var got []string
	used := 0
	for _, name := range d.List() {
		b, e := d.Read(name)
		if e != api.OK {
			t.Errorf("%s: Read(%s) = %d", what, name, int(e))
		}
		got = append(got, name, string(b))
		used += len(b)
	}
	if !slices.Equal(got, want) {
		t.Errorf("%s: the files are %q, want %q", what, got, want)
	}
	if d.Used() != used {
		t.Errorf("%s: Used = %d, want %d", what, d.Used(), used)
	}
}

// expectSafe asks what of the files is safe, by what stays where nothing loose does.
func expectSafe(t *testing.T, what string, d *disk.Disk, want ...string) {
	t.Helper()
	c := d.Clone()
	c.Start(nil)
	expectFiles(t, what+", its safe bytes", c, want...)
}

// P5.1
func TestNewHasNothing(t *testing.T) {
	for _, most := range []int{math.MinInt, -1, 0, 1, api.MaxDisk, math.MaxInt} {
		d := disk.New(most)
		expectFiles(t, "a new disk", d)
		if d.Down() || d.Steps() != 0 {
			t.Errorf("New(%d): Down %v, Steps %d", most, d.Down(), d.Steps())
		}
	}
}

// P5.1
func TestNewHasRoom(t *testing.T) {
	for _, x := range []struct{ most, room int }{
		{math.MinInt, 0},
		{-1, 0},
		{0, 0},
		{1, 1},
		{9, 9},
		{api.MaxDisk - 1, api.MaxDisk - 1},
		{api.MaxDisk, api.MaxDisk},
		{api.MaxDisk + 1, api.MaxDisk},
		{math.MaxInt, api.MaxDisk},
	} {
		d := played(t, x.most, create("a"), create("b"))
		if e := d.Append("a", make([]byte, x.room+1)); e != api.ErrFull {
			t.Errorf("New(%d): of one byte more than %d: %d", x.most, x.room, int(e))
		}
		if e := d.Append("a", make([]byte, x.room)); e != api.OK {
			t.Errorf("New(%d): of %d bytes: %d", x.most, x.room, int(e))
		}
		expectErrno(t, d, add("b", "x"), api.ErrFull)
		expectErrno(t, d, add("b", ""), api.OK)
		if d.Used() != x.room {
			t.Errorf("New(%d): Used = %d", x.most, d.Used())
		}
	}
}

// P5.1
func TestNames(t *testing.T) {
	for b := range 256 {
		want := api.ErrName
		if b >= 33 && b <= 126 {
			want = api.OK
		}
		for _, name := range []string{string([]byte{byte(b)}), "ab" + string([]byte{byte(b)}), string([]byte{byte(b)}) + "ab"} {
			expectErrno(t, disk.New(9), create(name), want)
		}
	}
	expectErrno(t, disk.New(9), create(strings.Repeat("n", api.MaxName)), api.OK)
	for _, name := range []string{"", strings.Repeat("n", api.MaxName+1), strings.Repeat("n", 1<<16), "é", "a b", "a\x00", "a/\n"} {
		d := played(t, 9, create("old"), create("now"))
		for _, c := range callsOf(name) {
			expectErrno(t, d, c, api.ErrName)
		}
		expectFiles(t, "behind calls of what is no name", d, "now", "", "old", "")
	}
	for _, name := range []string{"a", "/", "a/b.c", "~!", "manifest.new"} {
		expectErrno(t, disk.New(9), create(name), api.OK)
	}
}

// P5.1: ErrNil is ahead of ErrName, this of ErrDown, this of all others.
func TestErrorsAhead(t *testing.T) {
	for _, name := range []string{"a", "", "none", " "} {
		for _, c := range callsOf(name) {
			expectErrno(t, nil, c, api.ErrNil)
		}
	}
	expectErrno(t, nil, fail(0, true), api.ErrNil)
	expectErrno(t, nil, fail(-1, true), api.ErrNil)

	d := played(t, 9, create("a"), add("a", "xyz"), fail(0, false))
	expectErrno(t, d, sync("a"), api.ErrDown)
	for _, name := range []string{"", " ", strings.Repeat("n", 33)} {
		for _, c := range callsOf(name) {
			expectErrno(t, d, c, api.ErrName)
		}
		expectErrno(t, d, cut(name, -1), api.ErrName)
	}
	for _, name := range []string{"a", "none"} {
		for _, c := range callsOf(name) {
			expectErrno(t, d, c, api.ErrDown)
		}
		expectErrno(t, d, cut(name, -1), api.ErrDown)
		expectErrno(t, d, add(name, "more than nine"), api.ErrDown)
	}
	expectErrno(t, d, fail(-1, true), api.ErrDown)
	d.Start([]byte{255})
	expectFiles(t, "behind calls to a disk that is down", d, "a", "xyz")
	if d.Steps() != 2 {
		t.Errorf("Steps = %d", d.Steps())
	}
}

// P5.1, rule 2: no error is beside bytes.
func TestReadErrorsTellNothing(t *testing.T) {
	down := played(t, 9, create("a"), add("a", "x"), fail(0, true))
	expectErrno(t, down, sync("a"), api.ErrDown)
	for _, x := range []struct {
		d    *disk.Disk
		name string
		e    api.Errno
	}{
		{nil, "a", api.ErrNil},
		{down, "", api.ErrName},
		{down, "a", api.ErrDown},
		{disk.New(9), "a", api.ErrNone},
	} {
		if b, e := x.d.Read(x.name); len(b) != 0 || e != x.e {
			t.Errorf("Read(%q) = %q, %d; want %d", x.name, b, int(e), int(x.e))
		}
	}
}

// Rule 1
func TestNilDisk(t *testing.T) {
	var d *disk.Disk
	d.Start([]byte{255})
	d.Start(nil)
	if len(d.List()) != 0 || d.Used() != 0 || d.Down() || d.Steps() != 0 || d.Clone() != nil {
		t.Error("a disk that is not there tells something")
	}
}

// P5.3
func TestListRises(t *testing.T) {
	names := []string{"!", "0", "10", "9", "A", "B", "Z", "a", "a!", "aa", "ab", "a~", "b", "z", "~"}
	for turn := range names {
		d := disk.New(9)
		for i := range names {
			play(t, d, create(names[(7*i+turn)%len(names)]))
		}
		if got := d.List(); !slices.Equal(got, names) {
			t.Errorf("List = %q, want %q", got, names)
		}
	}
}

// P5.3: looks tell of a disk that is down, too, but for Read.
func TestLooksWhileDown(t *testing.T) {
	d := played(t, 99, create("b"), add("b", "safe"), sync("b"), create("a"), add("a", "loose"), fail(0, true))
	expectErrno(t, d, remove("b"), api.ErrDown)
	if !slices.Equal(d.List(), []string{"a"}) || d.Used() != 5 || !d.Down() || d.Steps() != 5 {
		t.Errorf("List %q, Used %d, Down %v, Steps %d", d.List(), d.Used(), d.Down(), d.Steps())
	}
}

// Rule 3: what is handed in is neither changed nor kept, and what is told is new memory.
func TestMemoryIsNotShared(t *testing.T) {
	d := played(t, 999, create("a"), create("b"))
	p := []byte("0123456789abcdefghij")
	before := string(p)
	if e := d.Append("a", p[:10]); e != api.OK || string(p) != before {
		t.Fatalf("Append = %d, and its bytes are %q", int(e), p)
	}
	spoil(p)
	first, _ := d.Read("a")
	spoil(first)
	spoilNames(d.List())
	play(t, d, add("a", "AB"))
	second, _ := d.Read("a")
	spoil(second) // what is appended next is not to stand in what was told
	play(t, d, add("a", "CD"), cut("a", 13), add("a", "E"))
	third, _ := d.Read("a")
	spoil(third)
	expectFiles(t, "behind all", d, "a", "0123456789ABCE", "b", "")
	keep := []byte{1, 255, 3}
	d.Start(keep)
	if !slices.Equal(keep, []byte{1, 255, 3}) {
		t.Errorf("Start makes %v of what it is handed", keep)
	}
	expectFiles(t, "behind Start", d, "a", "0123456789ABCE", "b", "")
}

// spoil writes to all bytes of b, and to its spare room.
func spoil(b []byte) {
	b = b[:cap(b)]
	for i := range b {
		b[i] = 0xee
	}
}

func spoilNames(l []string) {
	l = l[:cap(l)]
	for i := range l {
		l[i] = "spoilt"
	}
}

// Rule 4: two disks have nothing in common.
func TestDisksAreApart(t *testing.T) {
	one, other := disk.New(9), disk.New(9)
	play(t, one, create("a"), add("a", "xy"), fail(0, true))
	expectErrno(t, other, sync("a"), api.ErrNone)
	play(t, other, create("a"))
	expectErrno(t, one, remove("a"), api.ErrDown)
	expectFiles(t, "the other one", other, "a", "")
	if other.Down() || other.Steps() != 1 {
		t.Errorf("the other one: Down %v, Steps %d", other.Down(), other.Steps())
	}
}

// P5.6: whatever is done with the one, nothing of it is to be seen in the other one.
func TestCloneIsApart(t *testing.T) {
	changes := [][]call{
		{create("c")},
		{add("a", "more")},
		{sync("a")},
		{rename("a", "z")},
		{rename("a", "b")},
		{remove("a")},
		{cut("a", 1)},
		{cut("a", 0), add("a", "other")},
		{fail(0, true)},
	}
	for _, calls := range changes {
		for _, first := range []bool{true, false} {
			d := played(t, 99, create("a"), add("a", "safe"), sync("a"), add("a", "loose"), create("b"), add("b", "B"))
			c := d.Clone()
			if first {
				d, c = c, d
			}
			play(t, c, calls...)
			expectFiles(t, "as it was", d, "a", "safeloose", "b", "B")
			expectSafe(t, "as it was", d, "a", "safe", "b", "")
			c.Start([]byte{0, 1})
			expectFiles(t, "behind the other's Start", d, "a", "safeloose", "b", "B")
			if d.Steps() != 6 || d.Down() || d.Create("c") != api.OK {
				t.Errorf("behind %s of the other one: Steps %d, Down %v", calls[0].what, d.Steps(), d.Down())
			}
		}
	}
}

// P5.6: bytes that both append do not meet.
func TestCloneAppendsApart(t *testing.T) {
	d := played(t, 999, create("a"), add("a", "0123456789abcdefghij"), add("a", "k"))
	c := d.Clone()
	play(t, d, add("a", "one"))
	play(t, c, add("a", "two"))
	expectFiles(t, "the one", d, "a", "0123456789abcdefghijkone")
	expectFiles(t, "the other one", c, "a", "0123456789abcdefghijktwo")
}

// P5.6: its room, its steps, what Fail said, and that it is down.
func TestCloneIsAsTheFirst(t *testing.T) {
	c := played(t, 9, create("a"), add("a", "12345"), fail(1, true)).Clone()
	if c.Steps() != 2 || c.Down() {
		t.Errorf("Steps %d, Down %v", c.Steps(), c.Down())
	}
	expectErrno(t, c, add("a", "12345"), api.ErrFull)
	expectErrno(t, c, add("a", "1234"), api.OK)
	late := c.Clone()
	expectErrno(t, c, remove("a"), api.ErrDown)
	expectErrno(t, late, rename("a", "b"), api.ErrDown)
	c, late = c.Clone(), late.Clone()
	if !c.Down() || !late.Down() || c.Steps() != 3 || late.Steps() != 3 {
		t.Errorf("Down %v, %v; Steps %d, %d", c.Down(), late.Down(), c.Steps(), late.Steps())
	}
	expectErrno(t, c, create("c"), api.ErrDown)
	c.Start(nil)
	late.Start([]byte{255})
	expectFiles(t, "where it was removed", c)
	expectFiles(t, "where it was renamed", late, "b", "123451234")
}
