package frame

import (
	"bytes"

	"stemma/api"
	"stemma/leb"
)

// giveUp is what reading panics with: a type of its own, so that no other panic is taken for it.
type giveUp struct {
	why api.Errno
}

// Error tells why.
func (g giveUp) Error() string { return g.why.Error() }

// Open reads the frame with which bytes begin.
func Open(b []byte) (f Frame, used int, e api.Errno) {
	defer func() { e = reasonOf(recover()) }()
	f, used = read(b)
	return f, used, api.OK
}

// Scan reads frames, one behind the other.
func Scan(b []byte) (l []Frame, used int, e api.Errno) {
	for {
		f, size, e := Open(b[used:])
		if e == api.ErrNone {
			return l, used, api.OK // the end, and no fault of the bytes
		}
		if e != api.OK {
			return l, used, e
		}
		l = append(l, f)
		used += size
	}
}

// read tells the frame with which b begins, and how many bytes it has, or gives up.
func read(b []byte) (Frame, int) {
	giveUpIf(len(b) == 0, api.ErrNone)
	giveUpIf(b[0] == 0, api.ErrForm)
	length, lengthBytes, e := leb.GetUint(b[1:])
	giveUpIf(e != api.OK, e)
	giveUpIf(length > api.MaxFrame, api.ErrLong)
	start := 1 + lengthBytes
	end := start + int(length)
	giveUpIf(len(b) < end+sumBytes, api.ErrCut)
	giveUpIf(sumOf(b[:end]) != [sumBytes]byte(b[end:end+sumBytes]), api.ErrSum)
	return Frame{Kind: b[0], Body: bytes.Clone(b[start:end])}, end + sumBytes
}

func giveUpIf(wrong bool, why api.Errno) {
	if wrong {
		panic(giveUp{why})
	}
}

// reasonOf tells why reading gave up; OK, if it did not.
func reasonOf(panicked any) api.Errno {
	switch p := panicked.(type) {
	case nil:
		return api.OK
	case giveUp:
		return p.why
	default:
		panic(p) // hiding it would answer a frame that is none
	}
}
