package index_test

import (
	"slices"
	"testing"

	"stemma/api"
	"stemma/index"
)

// spoil writes to a list and its spare room.
func spoil[T any](l []T, with T) {
	l = l[:cap(l)]
	for i := range l {
		l[i] = with
	}
}

// spoilRecord writes to all lists of a record, and to their spare room.
func spoilRecord(r api.Record) {
	spoil(r.Changes, api.Hash{0xee})
	for _, b := range r.Branches {
		spoil(b.Heads, api.Hash{0xee})
	}
	spoil(r.Branches, api.Branch{Name: "spoilt"})
}

// spoilRecords writes to records, and to all that they have.
func spoilRecords(l []api.Record) {
	for _, r := range l {
		spoilRecord(r)
	}
	spoil(l, api.Record{Name: "spoilt"})
}

// roomy tells the plant with spare room behind each list, in which something stands.
func roomy() (cut, whole []api.Record) {
	whole = append(deep(plant()), api.Record{Name: "behind"})
	cut = slices.Clone(whole)
	for i := range whole {
		whole[i].Changes = append(whole[i].Changes, api.Hash{0xaa})
		whole[i].Branches = append(whole[i].Branches, api.Branch{Name: "behind"})
		cut[i].Changes = whole[i].Changes[:len(whole[i].Changes)-1]
		cut[i].Branches = slices.Clone(whole[i].Branches)
		for j := range whole[i].Branches {
			whole[i].Branches[j].Heads = append(whole[i].Branches[j].Heads, api.Hash{0xbb})
			cut[i].Branches[j].Heads = whole[i].Branches[j].Heads[:len(whole[i].Branches[j].Heads)-1]
		}
		cut[i].Branches = cut[i].Branches[:len(cut[i].Branches)-1]
	}
	return cut[:len(plant())], whole
}

// Rule 3: records that are handed in are not changed, with what stands in their spare room, and not kept.
func TestRecordsAreNotKept(t *testing.T) {
	cut, whole := roomy()
	want := deep(whole)
	b, _ := index.Put(cut)
	live := index.Live(cut)
	index.Check(cut)
	index.Same(cut, cut)
	index.Same(cut, cut[:2])
	if !alike(whole, want) || !alike(cut, plant()) || cut[:cap(cut)][len(cut)].Name != "behind" {
		t.Error("records are changed by what they are handed to")
	}
	wasLive := slices.Clone(live)
	spoilRecords(cut)
	spoilRecords(whole)
	if string(b) != bytesOf(plant()) || !slices.Equal(live, wasLive) {
		t.Error("an answer is changed where its records are spoilt")
	}
}

// Rule 3: bytes that are handed in are not changed, with what stands in their spare room, and not kept.
func TestBytesAreNotKept(t *testing.T) {
	whole := bytesOf(plant()) + "behind"
	b := []byte(whole)
	l, e := index.Get(b[:len(b)-6])
	if string(b) != whole || e != api.OK {
		t.Errorf("Get = %d, or changed its bytes", int(e))
	}
	spoil(b, 0xee)
	if !alike(l, plant()) {
		t.Error("what Get told is changed where its bytes are spoilt")
	}
}

// Rules 3 and 4: answers are new memory, with their spare room, and the same again.
func TestAnswersAreNewMemory(t *testing.T) {
	l := plant()
	b := []byte(bytesOf(l))
	laid, _ := index.Put(l)
	read, _ := index.Get(b)
	live := index.Live(l)
	want := slices.Clone(live)
	for range 3 {
		otherLaid, _ := index.Put(l)
		spoil(otherLaid, 0xee)
		otherRead, _ := index.Get(b)
		spoilRecords(otherRead)
		spoil(index.Live(l), api.Hash{0xee})
	}
	if !alike(l, plant()) || string(b) != bytesOf(plant()) {
		t.Error("an argument is changed where an answer is spoilt")
	}
	if string(laid) != bytesOf(plant()) || !alike(read, plant()) || !slices.Equal(live, want) {
		t.Error("an answer is changed where another one is spoilt")
	}
}

// Rule 3: no two lists of one answer share memory.
func TestListsOfOneAnswer(t *testing.T) {
	for i := range plant() {
		l, _ := index.Get([]byte(bytesOf(plant())))
		spoilRecord(l[i])
		want := plant()
		if !alike(l[:i], want[:i]) || !alike(l[i+1:], want[i+1:]) {
			t.Errorf("others are changed where the record %d is spoilt", i)
		}
	}
	for i, r := range plant() {
		for j := range r.Branches {
			l, _ := index.Get([]byte(bytesOf(plant())))
			spoil(l[i].Branches[j].Heads, api.Hash{0xee})
			l[i].Branches[j].Heads = r.Branches[j].Heads
			if !alike(l, plant()) {
				t.Errorf("others are changed where the heads of the branch %d of the record %d are spoilt", j, i)
			}
		}
	}
}

// Rule 3: the changes of one record alone are told as a list of their own.
func TestLiveOfOneIsNew(t *testing.T) {
	l := []api.Record{{Name: "a", Changes: short(1, 2)}}
	spoil(index.Live(l), api.Hash{0xee})
	if !slices.Equal(l[0].Changes, short(1, 2)) {
		t.Error("Live hands out a record's changes")
	}
}
