package view

import (
	"slices"

	"stemma/api"
	"stemma/rga"
)

// text is a text of a set: its row, and which changes put and took its characters.
type text struct {
	row   *rga.Row
	chars map[rga.Id]*char
	sight []*char // what the operation that comes next sees, in the row's order
}

// char is a character, with the place of the change that put it, and of those that took it.
type char struct {
	id   rga.Id
	put  int
	cuts []int
}

// text tells a text of the set. What one change has left in sight is looked up anew for the next one only if that sees what another one did.
func (h *history) text(name string) *text {
	t := &text{row: rga.New(), chars: map[rga.Id]*char{}}
	known, done := noneOf(len(h.pasts)), noneOf(len(h.pasts))
	for _, a := range h.acts[thing{aText, name}] {
		if past := h.pasts[a.at]; !done.has(a.at) {
			if !done.alike(known, past) {
				t.look(past)
			}
			known = past
			done.add(a.at)
		}
		t.do(a)
	}
	return t
}

// seenIn tells of each character whether it is seen in a set.
func (t *text) seenIn(set places) func(*char) bool {
	return func(c *char) bool {
		return set.has(c.put) && !set.hasAny(c.cuts)
	}
}

// look brings what is seen in a set in sight.
func (t *text) look(set places) {
	seen := t.seenIn(set)
	t.sight = t.sight[:0]
	for _, cell := range t.row.Cells() {
		if c := t.chars[cell.Id]; seen(c) {
			t.sight = append(t.sight, c)
		}
	}
}

// do does an operation that sees what is in sight.
func (t *text) do(a act) {
	from := min(a.op.Pos, len(t.sight))
	if a.op.Kind == api.OpIns {
		t.insert(from, a)
		return
	}
	t.cut(from, min(from+a.op.By, len(t.sight)), a.at)
}

// insert puts an operation's characters at a place in sight. Their numbers are above those of all that is in sight, so the row takes them, and none in sight comes between them and the one that they were put behind.
func (t *text) insert(from int, a act) {
	after := rga.Id{}
	if from > 0 {
		after = t.sight[from-1].id
	}
	fresh := make([]*char, len(a.op.Text))
	for i := range fresh {
		id := rga.Id{Ctr: a.id.Ctr + i, By: a.id.By}
		t.row.Insert(after, id, a.op.Text[i])
		fresh[i] = &char{id: id, put: a.at}
		t.chars[id] = fresh[i]
		after = id
	}
	t.sight = slices.Insert(t.sight, from, fresh...)
}

// cut takes the characters in sight from one place on up to another one, for the change at a place.
func (t *text) cut(from, to, at int) {
	for _, c := range t.sight[from:to] {
		t.row.Remove(c.id)
		c.cuts = append(c.cuts, at)
	}
	t.sight = slices.Delete(t.sight, from, to)
}

// marked tells all characters of the row, and in which of two sets each is seen.
func (t *text) marked(a, b places) []Char {
	inA, inB := t.seenIn(a), t.seenIn(b)
	var chars []Char
	for _, cell := range t.row.Cells() {
		c := t.chars[cell.Id]
		chars = append(chars, Char{Char: cell.Char, By: cell.Id.By, A: inA(c), B: inB(c)})
	}
	return chars
}
