package change

import (
	"bytes"

	"stemma/api"
	"stemma/leb"
	"stemma/op"
)

// Get reads a change.
func Get(b []byte) (api.Change, api.Errno) {
	if len(b) > api.MaxChange { // ahead of reading, so that no room is taken for what is refused anyhow
		return api.Change{}, api.ErrForm
	}
	c, e := read(b)
	if e != api.OK {
		return api.Change{}, api.ErrForm
	}
	laid, e := Put(c) // so that what may not be, or is laid in another way, is refused by the one rule of Put
	if e != api.OK || !bytes.Equal(laid, b) {
		return api.Change{}, api.ErrForm
	}
	return c, api.OK
}

// read tells the change that b tells, whether it may be or not.
func read(b []byte) (c api.Change, e api.Errno) {
	r := leb.Read(b)
	r.Uint(mark)
	c.Author = r.Text(api.MaxName)
	c.Seq = int(r.Uint(api.MaxNumber))
	c.Start = int(r.Uint(api.MaxNumber))
	c.Deps = taken(r.Uint(api.MaxDeps), r.Hash)
	c.Note = r.Text(api.MaxValue)
	if e := r.Err(); e != api.OK {
		return c, e
	}
	c.Ops, e = op.Get(b[len(b)-r.Left():])
	return c, e
}

// taken tells n hashes that are taken off one behind the other.
func taken(n uint64, take func() api.Hash) []api.Hash {
	l := make([]api.Hash, n)
	for i := range l {
		l[i] = take()
	}
	return l
}
