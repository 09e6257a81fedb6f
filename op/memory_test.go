package op_test

import (
	"bytes"
	"slices"
	"testing"

	"stemma/api"
	"stemma/op"
)

// spoil writes to a list and its spare room.
func spoil[T any](l []T, with T) {
	l = l[:cap(l)]
	for i := range l {
		l[i] = with
	}
}

// Rules 3 and 4: nothing that Put and Get answer is an argument's or another answer's.
func TestAnswersAreNewMemory(t *testing.T) {
	for _, s := range samples() {
		room := append(slices.Clone(s.ops), times(3, api.Op{Kind: api.OpDel, Name: "room"})...)
		whole := slices.Clone(room)
		l := room[:len(s.ops)]
		first, _ := op.Put(l)
		second, _ := op.Put(l)
		spoil(second, 0xee)
		if !slices.Equal(room, whole) {
			t.Errorf("Put's list or its spare room is changed: %.200v", room)
		}
		spoil(room, api.Op{})
		if string(first) != s.laid() {
			t.Errorf("Put's answer is now %.80x", first)
		}
		got, _ := op.Get(first)
		other, _ := op.Get(first)
		spoil(other, api.Op{})
		spoil(first, 0xcc)
		if !slices.Equal(got, s.ops) {
			t.Errorf("Get's answer is now %.200v", got)
		}
	}
	if again, _ := op.Put(nil); !bytes.Equal(again, make([]byte, 5)) {
		t.Errorf("Put(nil) is now %x", again)
	}
}

// Rule 3: what is looked at, taken or refused, stays as it is.
func TestLooksChangeNothing(t *testing.T) {
	for _, s := range samples() {
		for _, behind := range []string{"", "\x00", "\x80"} {
			whole := []byte(s.laid() + behind + "room")
			b := whole[: len(whole)-len("room") : len(whole)]
			op.Get(b)
			if string(whole) != s.laid()+behind+"room" {
				t.Errorf("Get's bytes are now %.80x", whole)
			}
		}
		l := slices.Clone(s.ops)
		op.Same(l, l)
		if !slices.Equal(l, s.ops) {
			t.Errorf("Same's list is now %.200v", l)
		}
	}
}
