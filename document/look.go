package document

import (
	"maps"
	"slices"

	"stemma/api"
	"stemma/blame"
	"stemma/dag"
	"stemma/patch"
	"stemma/view"
)

// look is a graph, and what was checked out of it. Whatever comes to the graph, a past that is there stays as it is,
// so what was told once holds for ever.
type look struct {
	graph  *dag.Graph
	told   map[string]api.Doc // by the heads' text
	weight int                // of all that was told
}

// mostKept is how heavy what was checked out may be, about in bytes. There may be more heads than any memory has room
// for, and all that is forgotten can be worked out again.
const mostKept = 1 << 20

// perThing is about how heavy a key, a value, a count, a text or a checkout is, beside its bytes.
const perThing = 64

// Checkout tells what the document says at some heads.
func (d *Document) Checkout(heads []api.Hash) (api.Doc, api.Errno) {
	if d == nil {
		return api.Doc{}, api.ErrNil
	}
	return d.at(heads)
}

// Read tells what a branch says.
func (d *Document) Read(branch string) (api.Doc, api.Errno) {
	if d == nil {
		return api.Doc{}, api.ErrNil
	}
	heads, e := d.heads(branch)
	if e != api.OK {
		return api.Doc{}, e
	}
	return d.at(heads)
}

// Patches tells what is between some heads and others.
func (d *Document) Patches(a, b []api.Hash) ([]api.Patch, api.Errno) {
	if d == nil {
		return nil, api.ErrNil
	}
	return patch.Between(d.graph, a, b)
}

// Blame tells who put what.
func (d *Document) Blame(heads []api.Hash) ([]api.Mark, api.Errno) {
	if d == nil {
		return nil, api.ErrNil
	}
	return blame.Of(d.graph, heads)
}

// Graph tells a fork of the graph.
func (d *Document) Graph() *dag.Graph {
	if d == nil {
		return nil
	}
	return d.graph.Fork()
}

// lookAt tells the look at a graph out of which nothing was checked yet.
func lookAt(g *dag.Graph) look {
	return look{graph: g, told: map[string]api.Doc{}}
}

// fork tells a look of its own that is as this one. Both hold the same documents, as neither writes to them.
func (l *look) fork() look {
	return look{graph: l.graph.Fork(), told: maps.Clone(l.told), weight: l.weight}
}

// at tells what the graph says at some heads.
func (l *look) at(heads []api.Hash) (api.Doc, api.Errno) {
	reduced, e := l.graph.Reduce(heads) // so that all heads of the same past have one text
	if e != api.OK {
		return api.Doc{}, e
	}
	text := textOf(reduced)
	d, told := l.told[text]
	if !told {
		d, _ = view.At(l.graph, reduced) // they are there, so this refuses nothing
		l.keep(text, d)
	}
	return copied(d), api.OK
}

// keep notes what was told at the heads of a text; where there is no room for all, it alone stays.
func (l *look) keep(text string, d api.Doc) {
	weight := weigh(text, d)
	if l.weight+weight > mostKept {
		clear(l.told)
		l.weight = 0
	}
	l.told[text] = d
	l.weight += weight
}

// textOf tells the text of heads: their bytes, one behind the other.
func textOf(heads []api.Hash) string {
	var text []byte
	for _, h := range heads {
		text = append(text, h[:]...)
	}
	return string(text)
}

// weigh tells about how many bytes the document at the heads of a text takes.
func weigh(text string, d api.Doc) int {
	weight := perThing + len(text)
	for _, k := range d.Entries {
		weight += perThing + len(k.Key)
		for _, value := range k.Values {
			weight += perThing + len(value)
		}
	}
	for _, c := range d.Counts {
		weight += perThing + len(c.Key)
	}
	for _, x := range d.Texts {
		weight += perThing + len(x.Name) + len(x.Chars)
	}
	return weight
}

// copied tells a document that shares no list with the one that is kept, as who asks may write to the answer.
func copied(d api.Doc) api.Doc {
	entries := slices.Clone(d.Entries)
	for i, k := range entries {
		entries[i].Values = slices.Clone(k.Values)
	}
	return api.Doc{Entries: entries, Counts: slices.Clone(d.Counts), Texts: slices.Clone(d.Texts)}
}
