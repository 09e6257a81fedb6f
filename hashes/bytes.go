package hashes

import (
	"stemma/api"
	"stemma/leb"
)

// hashLength is how many bytes a hash has.
const hashLength = len(api.Hash{})

// Put lays a list.
func Put(l []api.Hash) []byte {
	b := leb.Uint(uint64(len(l)))
	for _, h := range l {
		b = append(b, h[:]...)
	}
	return b
}

// Get takes a rising list off.
func Get(b []byte, most int) (l []api.Hash, used int, e api.Errno) {
	n, used, e := leb.GetUint(b)
	if e != api.OK {
		return nil, 0, e
	}
	if most < 0 || n > uint64(most) {
		return nil, 0, api.ErrLong
	}
	if n > uint64((len(b)-used)/hashLength) { // divided, as n times a length may be beyond all numbers
		return nil, 0, api.ErrCut
	}
	l = make([]api.Hash, n)
	for i := range l {
		l[i] = api.Hash(b[used : used+hashLength])
		used += hashLength
	}
	if !Rising(l) {
		return nil, 0, api.ErrForm
	}
	return l, used, api.OK
}
