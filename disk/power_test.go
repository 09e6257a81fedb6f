package disk_test

import (
	"math"
	"slices"
	"strings"
	"testing"

	"stemma/api"
	"stemma/disk"
)

// torn is a step in which the power fails, and the files behind it, with all that is loose, or without.
type torn struct {
	step             call
	notDone, done    []string
	safe, safeIfDone []string
}

// tornSteps tells at least one of each kind of step.
func tornSteps() []torn {
	old := []string{"a", "safeloose", "b", "B"}
	safe := []string{"a", "safe", "b", "B"}
	return []torn{
		{create("c"), old, append(slices.Clone(old), "c", ""), safe, append(slices.Clone(safe), "c", "")},
		{add("a", "+"), []string{"a", "safeloose+", "b", "B"}, []string{"a", "safeloose+", "b", "B"}, safe, safe},
		{sync("a"), old, old, safe, safe},
		{rename("a", "c"), old, []string{"b", "B", "c", "safeloose"}, safe, []string{"b", "B", "c", "safe"}},
		{rename("a", "b"), old, []string{"b", "safeloose"}, safe, []string{"b", "safe"}},
		{rename("b", "a"), old, []string{"a", "B"}, safe, []string{"a", "B"}},
		{rename("a", "a"), old, old, safe, safe},
		{remove("b"), old, []string{"a", "safeloose"}, safe, []string{"a", "safe"}},
		{cut("a", 6), old, []string{"a", "safelo", "b", "B"}, safe, []string{"a", "safelo", "b", "B"}},
		{cut("a", 2), old, []string{"a", "sa", "b", "B"}, safe, []string{"a", "sa", "b", "B"}},
		{cut("a", 9), old, old, safe, old},
	}
}

// P5.4
func TestFailInEachStep(t *testing.T) {
	for _, x := range tornSteps() {
		for _, done := range []bool{false, true} {
			d := played(t, 99, create("a"), add("a", "safe"), sync("a"), add("a", "loose"), create("b"), add("b", "B"), sync("b"), fail(0, done))
			if d.Down() {
				t.Fatal("Fail itself takes the power")
			}
			expectErrno(t, d, x.step, api.ErrDown)
			if !d.Down() || d.Steps() != 7 {
				t.Errorf("%s: Down %v, Steps %d", x.step.what, d.Down(), d.Steps())
			}
			all, safe := x.notDone, x.safe
			if done {
				all, safe = x.done, x.safeIfDone
			}
			expectSafe(t, x.step.what, d, safe...)
			d.Start(slices.Repeat([]byte{255}, 9))
			expectFiles(t, x.step.what, d, all...)
			if d.Down() || d.Steps() != 7 {
				t.Errorf("%s, behind Start: Down %v, Steps %d", x.step.what, d.Down(), d.Steps())
			}
		}
	}
}

// P5.4: that many steps go well; those that are refused, and looks, are none.
func TestFailCountsSteps(t *testing.T) {
	for n := range 6 {
		d := played(t, 9, create("a"), fail(n, false))
		for i := range n {
			for _, wrong := range []call{create("a"), sync("none"), add("a", "ten bytes!"), cut("a", 9), create("")} {
				if e := wrong.on(d); e == api.OK || e == api.ErrDown {
					t.Errorf("%d steps of %d: %s = %d", i, n, wrong.what, int(e))
				}
			}
			play(t, d, read("a"), sync("a"))
		}
		expectErrno(t, d, create("a"), api.ErrThere) // the power does not fail in what is no step
		expectErrno(t, d, sync("none"), api.ErrNone)
		play(t, d, read("a"))
		if d.Down() {
			t.Errorf("it is down behind %d of %d steps", n, n)
		}
		expectErrno(t, d, sync("a"), api.ErrDown)
		if !d.Down() || d.Steps() != n+1 {
			t.Errorf("Fail(%d): Down %v, Steps %d", n, d.Down(), d.Steps())
		}
	}
}

// P5.4
func TestFailTakesThePlace(t *testing.T) {
	d := played(t, 9, create("a"), create("b"), fail(0, true), fail(2, false), sync("a"), fail(1, true), sync("a"))
	expectErrno(t, d, remove("a"), api.ErrDown)
	d.Start(nil)
	expectFiles(t, "done", d, "b", "")
	play(t, d, fail(5, true), fail(0, false))
	expectErrno(t, d, remove("b"), api.ErrDown)
	d.Start(nil)
	expectFiles(t, "not done", d, "b", "")
}

// P5.4: a Fail that is refused leaves the elder one.
func TestFailErrors(t *testing.T) {
	d := played(t, 9, create("a"), fail(1, true))
	for _, n := range []int{-1, -2, math.MinInt} {
		expectErrno(t, d, fail(n, false), api.ErrArg)
	}
	play(t, d, sync("a"))
	expectErrno(t, d, remove("a"), api.ErrDown)
	expectErrno(t, d, fail(0, true), api.ErrDown)
	expectErrno(t, d, fail(-1, true), api.ErrDown) // both apply: the one that is named first
	d.Start(nil)
	expectFiles(t, "done", d)
}

// P5.4: far off.
func TestFailFarOff(t *testing.T) {
	d := played(t, 9, create("a"), fail(math.MaxInt, true))
	for range 1000 {
		play(t, d, sync("a"))
	}
	if d.Steps() != 1001 || d.Down() {
		t.Errorf("Steps %d, Down %v", d.Steps(), d.Down())
	}
}

// P5.4: an Append that there is no room for is no step; the one in which the power fails takes its room.
func TestFailInAppend(t *testing.T) {
	for _, done := range []bool{false, true} {
		d := played(t, 9, create("a"), fail(0, done))
		expectErrno(t, d, add("a", "ten bytes!"), api.ErrFull)
		expectErrno(t, d, add("a", "123456789"), api.ErrDown)
		if d.Used() != 9 {
			t.Errorf("Used = %d", d.Used())
		}
		d.Start([]byte{4})
		expectFiles(t, "four stay", d, "a", "1234")
	}
}

// P5.5
func TestStartForgetsFail(t *testing.T) {
	d := played(t, 9, create("a"), fail(0, true))
	d.Start(nil)
	play(t, d, sync("a"), rename("a", "b"), remove("b"), create("a"), fail(1, true), sync("a"))
	expectErrno(t, d, remove("a"), api.ErrDown)
	d.Start(nil)
	d.Start(nil)
	for range 9 {
		play(t, d, create("a"), remove("a"))
	}
	if d.Down() || d.Steps() != 24 { // Steps go on
		t.Errorf("Down %v, Steps %d", d.Down(), d.Steps())
	}
}

// P5.5: all that stays is safe, and another Start changes nothing.
func TestStartMakesSafe(t *testing.T) {
	d := played(t, 99, create("a"), add("a", "0123456789abcdefghij"))
	d.Start([]byte{2, 255})
	want := "01" + strings.Repeat("\x00", 14) + "ghij"
	expectFiles(t, "at first", d, "a", want)
	for _, keep := range [][]byte{nil, {0, 0, 0}, {1}, {255}} {
		d.Start(keep)
		expectFiles(t, "again", d, "a", want)
	}
	play(t, d, add("a", "klm"))
	expectSafe(t, "more appended", d, "a", want)
}

// P5.5
func TestStartKeeps(t *testing.T) {
	const sixteen = "0123456789abcdef"
	noughts := strings.Repeat("\x00", 16)
	for _, x := range []struct {
		safe, loose string
		keep        []byte
		want        string
	}{
		{"", "", []byte{255}, ""},
		{"safe", "", []byte{255}, "safe"},
		{"", "x", nil, ""},
		{"", "x", []byte{0}, ""},
		{"", "x", []byte{1}, "x"},
		{"", "x", []byte{2}, ""}, // 2 modulo 2
		{"", "x", []byte{254}, ""},
		{"", "x", []byte{253}, "x"},
		{"", "x", []byte{255}, "x"},
		{"", sixteen, []byte{16}, sixteen},
		{"", sixteen, []byte{17}, ""},
		{"", sixteen, []byte{18}, "0"},
		{"", sixteen, []byte{254}, sixteen}, // 254 modulo 17 is 16
		{"", sixteen, []byte{253}, sixteen[:15]},
		{"", sixteen, []byte{255}, sixteen},
		{"", sixteen + "ghij", []byte{0, 3}, noughts + "ghi"}, // the chapter's third example
		{"", sixteen + "ghij", []byte{3, 0}, "012"},
		{"", sixteen + "ghij", []byte{3, 5}, "012"}, // 5 modulo 5: nothing of the last piece stays
		{"", sixteen + "ghij", []byte{3}, "012"},
		{"", sixteen + "ghij", []byte{255}, sixteen},
		{"", sixteen + "ghij", []byte{255, 255, 255}, sixteen + "ghij"},
		{"", sixteen + "ghij", []byte{3, 1}, "012" + noughts[3:] + "g"},
		{"", sixteen + sixteen + sixteen, []byte{0, 0, 1}, noughts + noughts + "0"},
		{"", sixteen + sixteen + sixteen, []byte{5, 0, 1}, "01234" + noughts[5:] + noughts + "0"},
		{"", sixteen + sixteen + sixteen, []byte{0, 5, 17}, noughts + "01234"},
		// safe ones end within a sector: the first piece ends with it
		{"safe", sixteen, []byte{255, 0}, "safe" + sixteen[:12]},
		{"safe", sixteen, []byte{0, 255}, "safe" + noughts[:12] + sixteen[12:]},
		{"safe", sixteen, []byte{13, 1}, "safe" + noughts[:12] + "c"}, // 13 modulo 13
		{"safe", sixteen, []byte{14, 0}, "safe0"},
		{"safe", "xy", []byte{3, 255}, "safe"},
		{"safe", "xy", []byte{4}, "safex"},
		// safe ones end with a sector
		{sixteen, "xy", []byte{1}, sixteen + "x"},
		{sixteen, sixteen + "z", []byte{0, 1}, sixteen + noughts + "z"},
		{sixteen[:15], "xyz", []byte{0, 2}, sixteen[:15] + "\x00yz"},
		{sixteen[:15], "xyz", []byte{1, 1}, sixteen[:15] + "xy"},
		{sixteen[:15], "xyz", []byte{2, 0}, sixteen[:15]},
		// noughts that were safe, or that stay, are bytes as all others
		{"", "\x00\x00", []byte{255}, "\x00\x00"},
		{"\x00", "x\x00", []byte{2}, "\x00x\x00"},
	} {
		d := played(t, 99, create("a"), add("a", x.safe), sync("a"), add("a", x.loose))
		d.Start(x.keep)
		if b, e := d.Read("a"); string(b) != x.want || e != api.OK {
			t.Errorf("safe %q, loose %q, Start(%v): %q, %d; want %q", x.safe, x.loose, x.keep, b, int(e), x.want)
		}
	}
}

// P5.5: every k, at pieces of every length.
func TestStartKeepsPieces(t *testing.T) {
	const letters = "abcdefghijklmnop"
	for safe := range api.Sector {
		for length := 1; safe+length <= api.Sector; length++ {
			whole := played(t, 99, create("a"), add("a", letters[:safe]), sync("a"), add("a", letters[safe:safe+length]))
			for k := range 256 {
				d := whole.Clone()
				d.Start([]byte{byte(k)})
				stays := length
				if k < 255 {
					stays = k % (length + 1)
				}
				if b, _ := d.Read("a"); string(b) != letters[:safe+stays] {
					t.Errorf("%d safe, %d loose, Start(%d): %q", safe, length, k, b)
				}
			}
		}
	}
}

// P5.5: a piece ends with a sector of the file, not with what was appended at one time.
func TestStartPiecesAreSectors(t *testing.T) {
	d := disk.New(99)
	play(t, d, create("a"))
	for _, c := range "0123456789abcdefgh" {
		play(t, d, add("a", string(c)))
	}
	d.Start([]byte{255, 1})
	expectFiles(t, "by single bytes", d, "a", "0123456789abcdefg")
}

// P5.5: files take of keep by their names, whenever they were made; those without loose bytes take nothing.
func TestStartGoesByNames(t *testing.T) {
	d := played(t, 999,
		create("c"), add("c", "cccc"),
		create("b"), add("b", "bb"), sync("b"),
		create("x"), add("x", strings.Repeat("a", 18)), rename("x", "a"),
		create("B"), add("B", "BBBB"),
		create("e"), add("e", "eeee"),
		create("d"))
	d.Start([]byte{1, 2, 255, 3})
	expectFiles(t, "four pieces", d, "B", "B", "a", "aa"+strings.Repeat("\x00", 14)+"aa", "b", "bb", "c", "ccc", "d", "", "e", "")
}

// P5.5: what did not stay does not come again.
func TestStartLeavesNothingBehind(t *testing.T) {
	d := played(t, 99, create("a"), add("a", strings.Repeat("x", 40)))
	d.Start([]byte{4})
	play(t, d, add("a", strings.Repeat("y", 40)))
	d.Start([]byte{0, 0, 1})
	expectFiles(t, "twice", d, "a", "xxxx"+strings.Repeat("\x00", 28)+"y")
	if d.Append("a", make([]byte, 66)) != api.OK || d.Append("a", []byte{1}) != api.ErrFull {
		t.Error("the room of what did not stay is not there again")
	}
}

// keeps are what may stay of what is loose.
func keeps() [][]byte {
	return [][]byte{nil, {255, 255, 255, 255, 255, 255}, {0, 255}, {255, 0, 7}, {1, 2, 3, 4}, {17, 16}, {0, 0, 0, 1}}
}

// crashed tells a disk behind n of the calls, the power failing in the next one, and a Start.
func crashed(t *testing.T, d *disk.Disk, calls []call, n int, done bool, keep []byte) *disk.Disk {
	t.Helper()
	play(t, d, fail(n, done))
	play(t, d, calls[:n]...)
	expectErrno(t, d, calls[n], api.ErrDown)
	d.Start(keep)
	return d
}

// P5.7: a file is written anew beside the old one and renamed to it; wherever the power fails, one of both is there, whole.
func TestRenamedStandsWhole(t *testing.T) {
	const old, now = "what was there, of more than one sector", "what comes, and is as long as all of that, or more"
	calls := []call{create("new"), add("new", now[:20]), add("new", now[20:]), sync("new"), rename("new", "file"), create("other"), add("other", "x")}
	const renaming = 4
	for n := range len(calls) {
		for _, done := range []bool{false, true} {
			renamed := n > renaming || n == renaming && done
			for _, keep := range keeps() {
				d := crashed(t, played(t, 999, create("file"), add("file", old), sync("file")), calls, n, done, keep)
				want := old
				if renamed {
					want = now
				}
				if b, e := d.Read("file"); string(b) != want || e != api.OK {
					t.Errorf("Fail(%d, %v), Start(%v): %q, %d", n, done, keep, b, int(e))
				}
				if there := slices.Contains(d.List(), "new"); renamed && there {
					t.Errorf("Fail(%d, %v): it stands under both names", n, done)
				}
				if b, _ := d.Read("new"); n == renaming && !renamed && string(b) != now {
					t.Errorf("not renamed, Start(%v): the new file is %q", keep, b)
				}
			}
		}
	}
}

// P5.7: what was synced is there behind every Start, whatever was done behind the Sync, up to wherever the power failed.
func TestSyncedIsThere(t *testing.T) {
	const synced = "synced, and more than a sector of it"
	calls := []call{add("a", "loose"), create("b"), add("b", synced), add("a", strings.Repeat("l", 40)), rename("b", "c"), sync("c"), add("a", "!"), remove("c")}
	for n := range len(calls) {
		for _, done := range []bool{false, true} {
			for _, keep := range keeps() {
				d := crashed(t, played(t, 999, create("a"), add("a", synced), sync("a")), calls, n, done, keep)
				if b, e := d.Read("a"); !strings.HasPrefix(string(b), synced) || e != api.OK {
					t.Errorf("Fail(%d, %v), Start(%v): %q, %d", n, done, keep, b, int(e))
				}
				if b, e := d.Read("c"); n == 6 && (string(b) != synced || e != api.OK) {
					t.Errorf("Fail(%d, %v), Start(%v): the renamed and synced one is %q, %d", n, done, keep, b, int(e))
				}
			}
		}
	}
}
