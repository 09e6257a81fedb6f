package disk_test

import (
	"math"
	"slices"
	"strconv"
	"strings"
	"testing"

	"stemma/api"
	"stemma/disk"
)

// P5.2
func TestCreate(t *testing.T) {
	d := played(t, 9, create("a"))
	expectFiles(t, "one", d, "a", "")
	expectErrno(t, d, create("a"), api.ErrThere)
	play(t, d, add("a", "x"), create("b"))
	expectErrno(t, d, create("a"), api.ErrThere)
	expectFiles(t, "two", d, "a", "x", "b", "")
	play(t, d, remove("a"), create("a"))
	expectFiles(t, "anew", d, "a", "", "b", "")
}

// full tells a disk with as many files as may be, named by numbers from 0 on.
func full(t *testing.T) *disk.Disk {
	t.Helper()
	d := disk.New(99)
	for i := range api.MaxFiles {
		play(t, d, create(strconv.Itoa(i)))
	}
	return d
}

// P5.2
func TestCreateUpToMaxFiles(t *testing.T) {
	d := full(t)
	expectErrno(t, d, create("more"), api.ErrFull)
	expectErrno(t, d, create("0"), api.ErrThere) // both apply: the one that is named first
	if len(d.List()) != api.MaxFiles || d.Steps() != api.MaxFiles {
		t.Errorf("there are %d files behind %d steps", len(d.List()), d.Steps())
	}
	play(t, d, rename("0", "more"))
	expectErrno(t, d, create("0"), api.ErrFull)
	play(t, d, remove("7"), create("0"))
	expectErrno(t, d, create("7"), api.ErrFull)
	play(t, d, rename("1", "2"), create("7"))
	expectErrno(t, d, create("1"), api.ErrFull)
}

// P5.2
func TestAppend(t *testing.T) {
	d := disk.New(9)
	expectErrno(t, d, add("a", "x"), api.ErrNone)
	expectErrno(t, d, add("a", ""), api.ErrNone)
	expectErrno(t, d, add("a", "more than nine"), api.ErrNone) // both apply: the one that is named first
	play(t, d, create("a"), create("b"), add("a", "xy"), add("a", ""), add("b", "1"), add("a", "z"))
	expectFiles(t, "appended", d, "a", "xyz", "b", "1")
	expectSafe(t, "appended", d, "a", "", "b", "")
	play(t, d, sync("a"), add("a", "\x00\xff"))
	expectFiles(t, "appended behind a Sync", d, "a", "xyz\x00\xff", "b", "1")
	expectSafe(t, "appended behind a Sync", d, "a", "xyz", "b", "")
}

// P5.2: the room is that of all files together, loose or safe, and comes back with what goes.
func TestAppendUpToTheRoom(t *testing.T) {
	for _, back := range [][]call{
		{remove("a")},
		{cut("a", 0)},
		{rename("b", "a"), create("b")},
	} {
		d := played(t, 9, create("a"), add("a", "12345"), sync("a"), create("b"))
		expectErrno(t, d, add("b", "12345"), api.ErrFull)
		expectErrno(t, d, add("a", "12345"), api.ErrFull)
		play(t, d, add("b", "1234"))
		expectErrno(t, d, add("a", "1"), api.ErrFull)
		play(t, d, add("a", ""))
		play(t, d, back...)
		d.Start(nil)
		play(t, d, add("b", "123456789"[d.Used():]))
		expectErrno(t, d, add("b", "1"), api.ErrFull)
		if d.Used() != 9 {
			t.Errorf("behind %s: Used = %d", back[0].what, d.Used())
		}
	}
}

// P5.2
func TestSync(t *testing.T) {
	d := played(t, 99, create("a"), create("b"))
	expectErrno(t, d, sync("none"), api.ErrNone)
	play(t, d, sync("a"), add("a", "xyz"), add("b", "1"), sync("a"))
	expectFiles(t, "synced", d, "a", "xyz", "b", "1")
	expectSafe(t, "synced", d, "a", "xyz", "b", "")
	play(t, d, sync("a"), add("a", "w"), sync("b"), sync("a"))
	expectSafe(t, "both synced", d, "a", "xyzw", "b", "1")
}

// P5.2
func TestRename(t *testing.T) {
	d := played(t, 99, create("a"), add("a", "safe"), sync("a"), add("a", "loose"))
	expectErrno(t, d, rename("none", "a"), api.ErrNone)
	expectErrno(t, d, rename("none", "none"), api.ErrNone)
	play(t, d, rename("a", "b"))
	expectFiles(t, "renamed", d, "b", "safeloose")
	expectSafe(t, "renamed", d, "b", "safe")
	expectErrno(t, d, rename("a", "b"), api.ErrNone)
	play(t, d, create("c"), add("c", "what goes, and is longer"), sync("c"), rename("b", "c"))
	expectFiles(t, "renamed to what is there", d, "c", "safeloose")
	expectSafe(t, "renamed to what is there", d, "c", "safe")
	play(t, d, sync("c"), create("b"), rename("b", "c"))
	expectSafe(t, "an empty one renamed to what is there", d, "c", "")
}

// P5.2: of one and the same name nothing changes, and it is a step all the same.
func TestRenameToTheSameName(t *testing.T) {
	d := played(t, 99, create("a"), add("a", "safe"), sync("a"), add("a", "loose"), rename("a", "a"))
	expectFiles(t, "renamed", d, "a", "safeloose")
	expectSafe(t, "renamed", d, "a", "safe")
	if d.Steps() != 5 {
		t.Errorf("Steps = %d", d.Steps())
	}
}

// P5.2
func TestRemove(t *testing.T) {
	d := played(t, 99, create("a"), add("a", "x"), sync("a"), create("b"), remove("a"))
	expectFiles(t, "removed", d, "b", "")
	for _, c := range []call{remove("a"), sync("a"), add("a", ""), cut("a", 0), read("a"), rename("a", "b")} {
		expectErrno(t, d, c, api.ErrNone)
	}
	play(t, d, create("a"), add("a", "y"))
	expectSafe(t, "made anew", d, "a", "", "b", "")
}

// P5.2
func TestCut(t *testing.T) {
	const whole = "safe and loose"
	for n := range len(whole) + 1 {
		d := played(t, 99, create("a"), add("a", whole[:4]), sync("a"), add("a", whole[4:]), cut("a", n))
		expectFiles(t, "cut", d, "a", whole[:n])
		expectSafe(t, "cut", d, "a", whole[:n])
		play(t, d, add("a", "+"))
		expectFiles(t, "appended to", d, "a", whole[:n]+"+")
		expectSafe(t, "appended to", d, "a", whole[:n])
	}
}

// P5.2
func TestCutErrors(t *testing.T) {
	d := played(t, 99, create("a"), add("a", "xyz"), create("b"))
	for _, n := range []int{math.MinInt, -1, 4, 5, math.MaxInt} {
		expectErrno(t, d, cut("a", n), api.ErrArg)
		expectErrno(t, d, cut("none", n), api.ErrNone) // both apply: the one that is named first
	}
	expectErrno(t, d, cut("b", 1), api.ErrArg)
	expectErrno(t, d, cut("none", 0), api.ErrNone)
	expectFiles(t, "not cut", d, "a", "xyz", "b", "")
	expectSafe(t, "not cut", d, "a", "", "b", "")
}

// P5.3: calls without an error are counted, those with one and looks are not.
func TestSteps(t *testing.T) {
	d := disk.New(9)
	for i, c := range []call{create("a"), add("a", "xy"), add("a", ""), sync("a"), sync("a"), rename("a", "b"), cut("b", 2), cut("b", 0), remove("b"), create("c")} {
		play(t, d, c)
		for _, wrong := range []call{create(""), create("c "), sync("none"), add("none", ""), rename("none", "b"), remove("none"), cut("none", 0), read("none"), fail(-1, true)} {
			if wrong.on(d) == api.OK {
				t.Errorf("%s goes well", wrong.what)
			}
		}
		for _, name := range d.List() {
			play(t, d, read(name), fail(3, true))
			expectErrno(t, d, create(name), api.ErrThere)
			expectErrno(t, d, cut(name, 3), api.ErrArg)
			expectErrno(t, d, add(name, "ten bytes!"), api.ErrFull)
		}
		d.Clone()
		d.Used()
		if d.Steps() != i+1 {
			t.Fatalf("behind %s: Steps = %d, want %d", c.what, d.Steps(), i+1)
		}
	}
}

// Rule 2: a call that is refused changes nothing.
func TestRefusedChangesNothing(t *testing.T) {
	d := played(t, 12, create("a"), add("a", "safe"), sync("a"), add("a", "loose"), create("b"))
	for _, c := range []call{create("a"), create(" "), add("b", "1234"), add("none", "x"), sync("none"), rename("none", "a"), rename("a", ""), rename("", "a"), remove("none"), cut("a", 10), cut("a", -1), read("none"), fail(-1, true)} {
		if c.on(d) == api.OK {
			t.Errorf("%s goes well", c.what)
		}
		expectFiles(t, "behind "+c.what, d, "a", "safeloose", "b", "")
		expectSafe(t, "behind "+c.what, d, "a", "safe", "b", "")
		if d.Steps() != 5 || d.Down() {
			t.Errorf("behind %s: Steps %d, Down %v", c.what, d.Steps(), d.Down())
		}
	}
}

// The chapter's first two examples.
func TestExamples(t *testing.T) {
	d := played(t, 9, create("a"), add("a", "xy"), sync("a"), add("a", "z"))
	c := d.Clone()
	d.Start(nil)
	expectFiles(t, "where nothing is kept", d, "a", "xy")
	c.Start([]byte{255})
	expectFiles(t, "where all is kept", c, "a", "xyz")

	d = disk.New(9)
	expectErrno(t, d, add("a", "x"), api.ErrNone)
	expectErrno(t, d, create("a"), api.OK)
	expectErrno(t, d, add("a", "ten bytes!"), api.ErrFull)
	expectErrno(t, d, create(""), api.ErrName)
}

// The room is the greatest that may be, filled by many files; what is big is told whole.
func TestGreatFiles(t *testing.T) {
	d := full(t)
	if d.Append("3", make([]byte, 100)) != api.ErrFull {
		t.Error("more than the room goes in")
	}
	d = disk.New(api.MaxDisk)
	piece := strings.Repeat("0123456789abcdef", api.MaxDisk/api.MaxFiles/16)
	var want []string
	for i := range api.MaxFiles {
		name := string(rune('0'+i/8)) + string(rune('0'+i%8))
		play(t, d, create(name), add(name, piece[:100]), add(name, piece[100:]))
		want = append(want, name, piece)
	}
	expectErrno(t, d, add("00", "x"), api.ErrFull)
	expectFiles(t, "full", d, want...)
	d.Start(slices.Repeat([]byte{255}, api.MaxDisk/api.Sector))
	expectFiles(t, "full, and kept", d, want...)
}
