package document

import (
	"stemma/api"
	"stemma/change"
)

// Commit makes a change upon a branch.
func (d *Document) Commit(branch, author, note string, ops []api.Op) (api.Hash, api.Errno) {
	if d == nil {
		return api.Hash{}, api.ErrNil
	}
	heads, e := d.heads(branch)
	if e != api.OK {
		return api.Hash{}, e
	}
	b, e := d.write(heads, author, note, ops)
	if e != api.OK {
		return api.Hash{}, e
	}
	h, e := d.graph.Add(b)
	if e != api.OK && e != api.ErrThere { // what has its Deps there does not wait, so ErrThere tells that it is there
		return api.Hash{}, e
	}
	d.table.Move(branch, []api.Hash{h}) // the branch is there, so this refuses nothing
	return h, api.OK
}

// Receive takes a change's bytes.
func (d *Document) Receive(b []byte) (api.Hash, api.Errno) {
	if d == nil {
		return api.Hash{}, api.ErrNil
	}
	return d.graph.Add(b)
}

// write tells the bytes of the author's next change upon some heads.
func (d *Document) write(heads []api.Hash, author, note string, ops []api.Op) ([]byte, api.Errno) {
	seq, start, e := d.graph.Next(author, heads)
	if e != api.OK {
		return nil, e
	}
	return change.Put(api.Change{Author: author, Seq: seq, Start: start, Deps: heads, Note: note, Ops: ops})
}
