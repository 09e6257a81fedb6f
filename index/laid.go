package index

import (
	"stemma/api"
	"stemma/hashes"
	"stemma/leb"
)

const (
	version = 1       // the byte that all indices begin with
	most    = 1 << 19 // how many bytes an index has at most
)

// Put lays records.
func Put(l []api.Record) ([]byte, api.Errno) {
	if !mayBe(l) {
		return nil, api.ErrForm
	}
	b := laid(l)
	if len(b) > most {
		return nil, api.ErrLong
	}
	return b, api.OK
}

// laid tells the bytes of records that may be.
func laid(l []api.Record) []byte {
	b := append([]byte{version}, leb.Uint(uint64(len(l)))...)
	for _, r := range l {
		b = append(b, leb.Text(r.Name)...)
		b = append(b, leb.Uint(uint64(len(r.Branches)))...)
		for _, x := range r.Branches {
			b = append(b, leb.Text(x.Name)...)
			b = append(b, hashes.Put(x.Heads)...)
		}
		b = append(b, hashes.Put(r.Changes)...)
	}
	return b
}

// Get reads records.
func Get(b []byte) ([]api.Record, api.Errno) {
	if len(b) == 0 || len(b) > most || b[0] != version {
		return nil, api.ErrForm
	}
	r := leb.Read(b[1:])
	l := records(r)
	// Each number and text is told by bytes in one way alone: what was read to its end is what Put lays.
	if r.Done() != api.OK || !mayBe(l) {
		return nil, api.ErrForm
	}
	return l, api.OK
}

// records takes records off, whether they may be or not.
func records(r *leb.Reader) []api.Record {
	return gathered(r, api.MaxDocs, func() (x api.Record) {
		x.Name = r.Text(api.MaxName)
		x.Branches = gathered(r, api.MaxBranches, func() (y api.Branch) {
			y.Name = r.Text(api.MaxName)
			y.Heads = gathered(r, api.MaxDeps, r.Hash)
			return y
		})
		x.Changes = gathered(r, api.MaxChanges, r.Hash)
		return x
	})
}

// gathered takes off how many things there are, and each of these by one, up to the reader's first error: bytes may claim more than they have.
func gathered[T any](r *leb.Reader, atMost uint64, one func() T) []T {
	var l []T
	for range r.Uint(atMost) {
		if r.Err() != api.OK {
			break
		}
		l = append(l, one())
	}
	return l
}
