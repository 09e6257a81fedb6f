package view

import (
	"slices"

	"stemma/api"
	"stemma/change"
	"stemma/dag"
	"stemma/op"
	"stemma/rga"
)

// history is a set of changes that has their Deps, too. Each has a place, behind those of its Deps.
type history struct {
	where map[api.Hash]int
	pasts []places // by its place, each change's past
	acts  map[thing][]act
}

// Kinds of things.
const (
	aKey = iota
	aCount
	aText
)

// thing is what operations are done to: a key, a count and a text of one name have nothing in common.
type thing struct {
	kind int
	name string
}

// act is an operation, where its change stands, and its number with the change's hash.
type act struct {
	op api.Op
	at int
	id rga.Id
}

// read tells the set of some heads. A change is taken right behind one of its Deps where that can be, as it then mostly sees what that one left.
func read(g *dag.Graph, heads []api.Hash) (*history, api.Errno) {
	all, e := g.Past(heads)
	if e != api.OK {
		return nil, e
	}
	h := &history{where: map[api.Hash]int{}, acts: map[thing][]act{}}
	var take func(api.Hash)
	take = func(hash api.Hash) {
		if _, taken := h.where[hash]; taken {
			return
		}
		b, _ := g.Bytes(hash) // it is there, so these are a change's bytes
		c, _ := change.Get(b)
		for _, dep := range c.Deps {
			take(dep)
		}
		h.add(hash, c, noneOf(len(all)))
	}
	for _, head := range heads {
		take(head)
	}
	return h, api.OK
}

// add takes a change whose Deps have been taken; past is where its past is laid.
func (h *history) add(hash api.Hash, c api.Change, past places) {
	at := len(h.pasts)
	for _, dep := range c.Deps {
		past.join(h.pasts[h.where[dep]])
	}
	past.add(at)
	h.where[hash] = at
	h.pasts = append(h.pasts, past)
	number := c.Start
	for _, o := range c.Ops {
		what := thing{kindOf(o), o.Name}
		h.acts[what] = append(h.acts[what], act{o, at, rga.Id{Ctr: number, By: hash}})
		number += op.Size(o)
	}
}

// kindOf tells what kind of thing an operation is done to.
func kindOf(o api.Op) int {
	switch o.Kind {
	case api.OpPut, api.OpDel:
		return aKey
	case api.OpAdd:
		return aCount
	}
	return aText
}

// past tells the past of some heads of the set.
func (h *history) past(heads []api.Hash) places {
	past := noneOf(len(h.pasts))
	for _, head := range heads {
		past.join(h.pasts[h.where[head]])
	}
	return past
}

// names tells the names of all things of a kind, rising, as a map has no order.
func (h *history) names(kind int) []string {
	var names []string
	for what := range h.acts {
		if what.kind == kind {
			names = append(names, what.name)
		}
	}
	slices.Sort(names)
	return names
}

// entries tells each key that has values, with them.
func (h *history) entries() []api.Entry {
	var entries []api.Entry
	for _, k := range h.held() {
		entries = append(entries, api.Entry{Key: k.Key, Values: k.Values})
	}
	return entries
}

// held tells each key that has values, with them and their changes.
func (h *history) held() []Held {
	var held []Held
	for _, name := range h.names(aKey) {
		k := Held{Key: name}
		for _, put := range h.left(h.acts[thing{aKey, name}]) {
			k.Values = append(k.Values, put.op.Text)
			k.By = append(k.By, put.id.By)
		}
		if len(k.Values) > 0 {
			held = append(held, k)
		}
	}
	return held
}

// left tells the OpPuts that no other one of these operations has ahead of itself, the least id first. Those that have one ahead of themselves come behind it, so they are gone through from the last one on.
func (h *history) left(acts []act) []act {
	var left []act
	ahead := noneOf(len(h.pasts)) // of one that was gone through
	for _, a := range slices.Backward(acts) {
		if ahead.has(a.at) { // and so is all that it has ahead of itself
			continue
		}
		if a.op.Kind == api.OpPut {
			left = append(left, a)
		}
		ahead.join(h.pasts[a.at])
	}
	slices.SortFunc(left, byIds)
	return left
}

// byIds tells which of two operations is ahead by its id.
func byIds(a, b act) int {
	switch {
	case rga.Less(a.id, b.id):
		return -1
	case rga.Less(b.id, a.id):
		return 1
	}
	return 0
}

// counts tells each count, with its sum.
func (h *history) counts() []api.Count {
	var counts []api.Count
	for _, name := range h.names(aCount) {
		c := api.Count{Key: name}
		for _, a := range h.acts[thing{aCount, name}] {
			c.N += a.op.By
		}
		counts = append(counts, c)
	}
	return counts
}

// texts tells each text of which a character is seen, with these.
func (h *history) texts() []api.Text {
	var texts []api.Text
	for _, name := range h.names(aText) {
		if chars := h.text(name).row.Text(); len(chars) > 0 {
			texts = append(texts, api.Text{Name: name, Chars: string(chars)})
		}
	}
	return texts
}

// rows tells each text that has characters, with all of them, and in which of two sets each is seen.
func (h *history) rows(a, b places) []Row {
	var rows []Row
	for _, name := range h.names(aText) {
		if chars := h.text(name).marked(a, b); len(chars) > 0 {
			rows = append(rows, Row{Name: name, Chars: chars})
		}
	}
	return rows
}
