package op

import (
	"bytes"

	"stemma/api"
	"stemma/column"
	"stemma/leb"
)

// Get reads operations.
func Get(b []byte) ([]api.Op, api.Errno) {
	l, read := readOps(b)
	if !read {
		return nil, api.ErrForm
	}
	laid, e := Put(l) // so that what may not be, or is laid in another way, is refused by the one rule of Put
	if e != api.OK || !bytes.Equal(laid, b) {
		return nil, api.ErrForm
	}
	return l, api.OK
}

// readOps tells the operations that b begins with, whether they may be or not, or that there are none.
func readOps(b []byte) ([]api.Op, bool) {
	t := taker{left: b}
	kinds := t.column(column.GetRuns)
	names := t.texts(t.count(), api.MaxName)
	nameNumbers := t.column(column.GetRuns)
	places := t.column(column.GetDeltas)
	bys := t.column(column.GetRuns)
	if t.failed || len(nameNumbers) != len(kinds) || len(places) != len(kinds) || len(bys) != len(kinds) {
		return nil, false
	}
	l := make([]api.Op, len(kinds))
	for i := range l {
		number := nameNumbers[i]
		if number < 0 || number >= int64(len(names)) {
			return nil, false
		}
		l[i] = api.Op{Kind: int(kinds[i]), Name: names[number], Pos: int(places[i]), By: int(bys[i])}
		if hasText(l[i].Kind) {
			l[i].Text = t.text(api.MaxValue)
		}
	}
	return l, !t.failed
}

// taker takes parts off bytes, one behind the other; once one has failed, all later ones are empty.
type taker struct {
	left   []byte
	failed bool
}

// passed notes how a part was taken off.
func (t *taker) passed(used int, e api.Errno) {
	t.left = t.left[used:]
	t.failed = t.failed || e != api.OK
}

// column takes a number of each operation off.
func (t *taker) column(get func(b []byte, most int) ([]int64, int, api.Errno)) []int64 {
	if t.failed {
		return nil
	}
	l, used, e := get(t.left, api.MaxOps)
	t.passed(used, e)
	return l
}

// count takes off how many names there are: no more than there may be operations.
func (t *taker) count() int {
	if t.failed {
		return 0
	}
	n, used, e := leb.GetUint(t.left)
	t.passed(used, e)
	if n > api.MaxOps {
		t.failed = true
		return 0
	}
	return int(n)
}

// text takes a text off.
func (t *taker) text(most int) string {
	if t.failed {
		return ""
	}
	s, used, e := leb.GetText(t.left, most)
	t.passed(used, e)
	return s
}

// texts takes n texts off.
func (t *taker) texts(n, most int) []string {
	l := make([]string, n)
	for i := range l {
		l[i] = t.text(most)
	}
	return l
}
