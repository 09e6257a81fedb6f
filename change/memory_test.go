package change_test

import (
	"slices"
	"testing"

	"stemma/api"
	"stemma/change"
)

// spoil writes to a list and its spare room.
func spoil[T any](l []T, with T) {
	l = l[:cap(l)]
	for i := range l {
		l[i] = with
	}
}

// withRoom tells a change like c whose lists have spare room, and these lists with it.
func withRoom(c api.Change) (roomy api.Change, deps []api.Hash, ops []api.Op) {
	deps = append(slices.Clone(c.Deps), api.Hash{0xaa}, api.Hash{0xbb})
	ops = append(slices.Clone(c.Ops), times(3, api.Op{Kind: api.OpDel, Name: "room"})...)
	roomy = c
	roomy.Deps, roomy.Ops = deps[:len(c.Deps)], ops[:len(c.Ops)]
	return roomy, deps, ops
}

// Rules 3 and 4: nothing that Put and Get answer is an argument's or another answer's.
func TestAnswersAreNewMemory(t *testing.T) {
	for _, s := range samples() {
		c, deps, ops := withRoom(s.change)
		first, _ := change.Put(c)
		second, _ := change.Put(c)
		spoil(second, 0xee)
		spoil(deps, api.Hash{0xdd})
		spoil(ops, api.Op{})
		if string(first) != s.laid() {
			t.Errorf("Put's answer is now %.80x", first)
		}
		got, _ := change.Get(first)
		other, _ := change.Get(first)
		spoil(other.Deps, api.Hash{0xdd})
		spoil(other.Ops, api.Op{})
		spoil(first, 0xcc)
		if !alike(got, s.change) {
			t.Errorf("Get's answer is now %.200v", got)
		}
	}
}

// Rule 3: what is looked at, taken or refused, stays as it is, and its spare room, too.
func TestLooksChangeNothing(t *testing.T) {
	for _, s := range samples() {
		for _, author := range []string{s.change.Author, "-"} {
			c, deps, ops := withRoom(s.change)
			c.Author = author
			wholeDeps, wholeOps := slices.Clone(deps), slices.Clone(ops)
			change.Check(c)
			change.Put(c)
			change.Hash(c)
			change.Size(c)
			change.Same(c, c)
			if !slices.Equal(deps, wholeDeps) || !slices.Equal(ops, wholeOps) {
				t.Errorf("a change's lists or their spare room are now %.200v, %.200v", deps, ops)
			}
		}
		for _, behind := range []string{"", "\x00", "\x80"} {
			whole := []byte(s.laid() + behind + "room")
			change.Get(whole[: len(whole)-len("room") : len(whole)])
			if string(whole) != s.laid()+behind+"room" {
				t.Errorf("Get's bytes are now %.80x", whole)
			}
		}
	}
}
