package document

import (
	"stemma/api"
	"stemma/branch"
)

// names are a document's branches.
type names struct {
	table *branch.Table
}

// Create makes a branch where another one is.
func (d *Document) Create(name, from string) api.Errno {
	if d == nil {
		return api.ErrNil
	}
	heads, e := d.heads(from)
	if e != api.OK {
		return e
	}
	return d.table.Create(name, heads)
}

// Move gives a branch other heads.
func (d *Document) Move(name string, heads []api.Hash) api.Errno {
	if d == nil {
		return api.ErrNil
	}
	if _, e := d.heads(name); e != api.OK {
		return e
	}
	return d.moveTo(name, heads)
}

// Delete takes a branch away.
func (d *Document) Delete(name string) api.Errno {
	if d == nil {
		return api.ErrNil
	}
	return d.table.Delete(name)
}

// Merge brings what another branch has into a branch.
func (d *Document) Merge(into, from string) api.Errno {
	if d == nil {
		return api.ErrNil
	}
	heads, e := d.heads(into, from)
	if e != api.OK {
		return e
	}
	return d.moveTo(into, heads)
}

// Track gives a branch all heads.
func (d *Document) Track(name string) api.Errno {
	if d == nil {
		return api.ErrNil
	}
	return d.table.Move(name, d.graph.Heads()) // none of them is in the past of another one
}

// Branches tells all branches.
func (d *Document) Branches() []api.Branch {
	if d == nil {
		return nil
	}
	return d.table.List()
}

// moveTo gives a branch that is there those of the hashes that are not in the past of another one.
func (d *Document) moveTo(name string, l []api.Hash) api.Errno {
	reduced, e := d.graph.Reduce(l)
	if e != api.OK {
		return e
	}
	return d.table.Move(name, reduced)
}

// heads tells the heads of some branches, one branch's behind the other's.
func (n *names) heads(branches ...string) ([]api.Hash, api.Errno) {
	var all []api.Hash
	for _, name := range branches {
		heads, e := n.table.Heads(name)
		if e != api.OK {
			return nil, e
		}
		all = append(all, heads...)
	}
	return all, api.OK
}

// fork tells branches of their own that are as these.
func (n *names) fork() names {
	return names{n.table.Fork()}
}
