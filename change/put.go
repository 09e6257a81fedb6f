package change

import (
	"slices"

	"stemma/api"
	"stemma/hashes"
	"stemma/leb"
	"stemma/op"
)

// mark is the byte that every change begins with.
const mark = 1

// Put lays a change.
func Put(c api.Change) ([]byte, api.Errno) {
	var ops, laid []byte
	e := firstNo([]func() api.Errno{
		func() api.Errno { return unless(hashes.Name(c.Author), api.ErrName) },
		func() api.Errno { return unless(isNumber(c.Seq), api.ErrSeq) },
		func() api.Errno { return unless(isNumber(c.Start), api.ErrStart) },
		func() api.Errno { return unless(areDeps(c.Deps), api.ErrDeps) },
		func() api.Errno { return unless(len(c.Note) <= api.MaxValue, api.ErrLong) },
		func() (e api.Errno) {
			ops, e = op.Put(c.Ops)
			return e
		},
		func() api.Errno {
			laid = lay(c, ops)
			return unless(len(laid) <= api.MaxChange, api.ErrLong)
		},
	})
	if e != api.OK {
		return nil, e
	}
	return laid, api.OK
}

// firstNo tells the first error that is answered; nothing behind it is asked, as later ones may go by what earlier
// ones found.
func firstNo(questions []func() api.Errno) api.Errno {
	for _, ask := range questions {
		if e := ask(); e != api.OK {
			return e
		}
	}
	return api.OK
}

// unless tells no error where something may be, else e.
func unless(may bool, e api.Errno) api.Errno {
	if may {
		return api.OK
	}
	return e
}

// isNumber tells whether a number may be a Seq or a Start.
func isNumber(n int) bool {
	return 1 <= n && n <= api.MaxNumber
}

// areDeps tells whether a list may be a change's Deps.
func areDeps(l []api.Hash) bool {
	return len(l) <= api.MaxDeps && hashes.Rising(l)
}

// lay tells the bytes of a change whose fields may be, and whose operations are laid as ops.
func lay(c api.Change, ops []byte) []byte {
	return slices.Concat(
		[]byte{mark},
		leb.Text(c.Author),
		leb.Uint(uint64(c.Seq)),
		leb.Uint(uint64(c.Start)),
		hashes.Put(c.Deps),
		leb.Text(c.Note),
		ops,
	)
}
