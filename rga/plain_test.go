package rga_test

import (
	"slices"

	"stemma/api"
	"stemma/rga"
)

// put is a cell with the id of the one behind which it was put.
type put struct {
	after rga.Id
	cell  rga.Cell
}

// plain is a row told as the chapter tells it, without any thought of speed.
type plain []put

// find tells the place of a cell, or -1.
func (p plain) find(id rga.Id) int {
	return slices.IndexFunc(p, func(one put) bool { return one.cell.Id == id })
}

// insert is Insert.
func (p *plain) insert(after, id rga.Id, char byte) api.Errno {
	switch {
	case id.Ctr < 1 || !(id.Ctr > after.Ctr):
		return api.ErrArg
	case p.find(id) >= 0:
		return api.ErrThere
	case after != rga.Id{} && p.find(after) < 0:
		return api.ErrNone
	}
	*p = append(*p, put{after, rga.Cell{Id: id, Char: char}})
	return api.OK
}

// remove is Remove.
func (p plain) remove(id rga.Id) api.Errno {
	i := p.find(id)
	if i < 0 {
		return api.ErrNone
	}
	p[i].cell.Gone = true
	return api.OK
}

// greater tells whether the first id is the greater one.
func greater(a, b rga.Id) bool {
	return a.Ctr > b.Ctr || a.Ctr == b.Ctr && string(a.By[:]) > string(b.By[:])
}

// below tells all cells below one, the greatest id first, behind each what is below it.
func (p plain) below(after rga.Id) []rga.Cell {
	var beside []rga.Cell
	for _, one := range p {
		if one.after == after {
			i := 0
			for i < len(beside) && greater(beside[i].Id, one.cell.Id) {
				i++
			}
			beside = slices.Insert(beside, i, one.cell)
		}
	}
	var all []rga.Cell
	for _, c := range beside {
		all = append(append(all, c), p.below(c.Id)...)
	}
	return all
}

// cells is Cells.
func (p plain) cells() []rga.Cell { return p.below(rga.Id{}) }

// list is a row of numbers that looks like one without a rule, and is the same at each run.
type list uint64

// below tells the row's next number, from 0 to n - 1.
func (l *list) below(n int) int {
	*l = *l*6364136223846793005 + 1442695040888963407
	return int(uint64(*l) >> 33 % uint64(n))
}

// tree tells n cells, each behind one that comes ahead of it, or behind the beginning; steep says how seldom it is behind the last one.
func (l *list) tree(n, steep int) plain {
	var p plain
	for len(p) < n {
		after := rga.Id{}
		if len(p) > 0 && l.below(steep) > 0 {
			after = p[len(p)-1].cell.Id
		} else if i := l.below(len(p) + 1); i > 0 {
			after = p[i-1].cell.Id
		}
		p.insert(after, by(after.Ctr+1+l.below(4), byte(l.below(3))), byte('a'+len(p)%26))
	}
	return p
}

// shuffled tells the cells of a tree in another order, each behind the one that it stands below.
func (l *list) shuffled(p plain) plain {
	var out plain
	waiting := slices.Clone(p)
	for len(waiting) > 0 {
		i := l.below(len(waiting))
		if after := waiting[i].after; after == (rga.Id{}) || out.find(after) >= 0 {
			out = append(out, waiting[i])
			waiting = slices.Delete(waiting, i, i+1)
		}
	}
	return out
}

// orders hands all orders of a tree's cells to see, each behind the one that it stands below.
func (p plain) orders(see func(p plain)) {
	taken := make([]int, len(p))
	var out plain
	var step func()
	step = func() {
		if len(out) == len(p) {
			see(out)
			return
		}
		for i, one := range p {
			if taken[i] == 0 && (one.after == rga.Id{} || out.find(one.after) >= 0) {
				taken[i], out = 1, append(out, one)
				step()
				taken[i], out = 0, out[:len(out)-1]
			}
		}
	}
	step()
}
