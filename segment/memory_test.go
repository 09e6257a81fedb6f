package segment_test

import (
	"strings"
	"testing"

	"stemma/api"
	"stemma/segment"
	"stemma/sha"
)

// spoil writes to all bytes of b, and to its spare room.
func spoil(b []byte) {
	b = b[:cap(b)]
	for i := range b {
		b[i] = 0xee
	}
}

// Rule 3: chunks that are handed in are not changed, with what stands in their spare room, and not kept.
func TestChunksAreNotKept(t *testing.T) {
	room := [][]byte{[]byte("onebehind"), []byte("behind"), []byte("last")}
	chunks := [][]byte{room[0][:3], room[1][:0]}
	given := append([][]byte{}, append(chunks, room[2])...)[:2]
	b, e := segment.Put(given)
	if e != api.OK || string(room[0]) != "onebehind" || string(room[1]) != "behind" || string(given[:3][2]) != "last" || string(given[0]) != "one" {
		t.Errorf("Put = %d, or changed its chunks", int(e))
	}
	want := string(b)
	spoil(given[0])
	spoil(given[1])
	if string(b) != want {
		t.Error("an answer is changed where its chunks are spoilt")
	}
	again, _ := segment.Put(chunksOf("one", ""))
	spoil(b)
	if string(again) != want || put(t, "one", "") != want {
		t.Error("one answer of Put is another one's memory")
	}
}

// Rule 3: bytes that are handed in are not changed, with what stands in their spare room, and not kept; no two chunks share memory.
func TestBytesAreNotKept(t *testing.T) {
	whole := put(t, "one", "", "two", strings.Repeat("x", 200), "one")
	room := []byte(whole + "behind")
	b := room[:len(whole)]
	l, e := segment.Get(b)
	got, ok := segment.Find(b, sha.Sum([]byte("two")))
	if e != api.OK || !ok || string(room) != whole+"behind" {
		t.Errorf("Get = %d, Find tells %v, or they changed their bytes", int(e), ok)
	}
	again, _ := segment.Get(b)
	more, _ := segment.Find(b, sha.Sum([]byte("two")))
	spoil(room)
	want := []string{"one", "", "two", strings.Repeat("x", 200), "one"}
	if !same(l, want) || string(got) != "two" {
		t.Error("an answer is changed where its bytes are spoilt")
	}
	for i := range l {
		spoil(l[i])
		want[i] = string(l[i])
		if !same(l, want) {
			t.Errorf("the chunk %d shares memory with another one", i)
		}
	}
	spoil(got)
	if string(more) != "two" || !same(again, []string{"one", "", "two", strings.Repeat("x", 200), "one"}) {
		t.Error("one answer is another one's memory")
	}
}

// Rule 3: a list that Get answers has spare room of its own.
func TestListsAreNew(t *testing.T) {
	b := []byte(put(t, "a", "b", "c"))
	one, _ := segment.Get(b)
	two, _ := segment.Get(b)
	one = append(one, []byte("d"))
	two = append(two, []byte("e"))
	one[0] = nil
	if !same(two, []string{"a", "b", "c", "e"}) || !same(one, []string{"", "b", "c", "d"}) {
		t.Errorf("lists of two calls: %q and %q", textsOf(one), textsOf(two))
	}
}
