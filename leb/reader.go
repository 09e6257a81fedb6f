package leb

import (
	"bytes"

	"stemma/api"
)

// Reader takes things off bytes, one behind the other.
type Reader struct {
	rest  []byte
	first api.Errno
}

// Read makes a reader.
func Read(b []byte) *Reader {
	return &Reader{rest: bytes.Clone(b)} // a copy: whoever handed b in may write to it again
}

// Uint takes a number off.
func (r *Reader) Uint(most uint64) uint64 {
	return taken(r, func(b []byte) (uint64, int, api.Errno) {
		n, used, e := GetUint(b)
		if n > most {
			return 0, 0, api.ErrLong
		}
		return n, used, e
	})
}

// Int takes a number off that may be below 0.
func (r *Reader) Int() int64 {
	return taken(r, GetInt)
}

// Text takes a text off.
func (r *Reader) Text(most int) string {
	return taken(r, func(b []byte) (string, int, api.Errno) {
		return GetText(b, most)
	})
}

// Hash takes a hash off.
func (r *Reader) Hash() api.Hash {
	return taken(r, func(b []byte) (h api.Hash, used int, e api.Errno) {
		if len(b) < len(h) {
			return h, 0, api.ErrCut
		}
		return api.Hash(b[:len(h)]), len(h), api.OK
	})
}

// Left tells how many bytes there are still.
func (r *Reader) Left() int {
	if r == nil {
		return 0
	}
	return len(r.rest)
}

// Err tells the first error.
func (r *Reader) Err() api.Errno {
	if r == nil {
		return api.OK
	}
	return r.first
}

// Done tells the first error, or that there are bytes still.
func (r *Reader) Done() api.Errno {
	if e := r.Err(); e != api.OK {
		return e
	}
	if r.Left() > 0 {
		return api.ErrTail
	}
	return api.OK
}

// taken tells what get finds at the reader's bytes, and takes it off them; get uses no bytes beside an error.
func taken[T any](r *Reader, get func(b []byte) (thing T, used int, e api.Errno)) T {
	if r == nil || r.first != api.OK {
		var none T
		return none
	}
	thing, used, e := get(r.rest)
	switch {
	case e != api.OK:
		r.first = e
		fallthrough // a read that fails ends like one that took nothing off
	default:
		end := len(r.rest)
		r.rest = r.rest[used:end:end]
	}
	return thing
}
