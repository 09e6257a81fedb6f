// Package sha is layer 1: see shared/doc/01-sha.md.
package sha

import "stemma/api"

// lengthSize is how many bytes at the end of the last block tell the length.
const lengthSize = 8

// Sum tells the sum of bytes.
func Sum(b []byte) api.Hash {
	h := New()
	h.Write(b)
	return h.Sum()
}

// Hasher sums bytes that come in pieces.
type Hasher struct {
	words   state
	partial block // its first written%blockSize bytes wait for the rest of their block
	written int
}

// New makes a hasher.
func New() *Hasher {
	return &Hasher{words: firstState()}
}

// Write lays bytes behind what was written.
func (h *Hasher) Write(p []byte) {
	if h == nil {
		return
	}
	for len(p) > 0 {
		n := copy(h.partial[h.written%blockSize:], p)
		p = p[n:]
		h.written += n
		if h.written%blockSize == 0 {
			h.words = mixed(h.words, h.partial)
		}
	}
}

// Sum tells the sum of what was written.
func (h *Hasher) Sum() api.Hash {
	if h == nil {
		return api.Hash{}
	}
	ended := *h // the end is laid on a copy, so that writing can go on
	ended.Write(ending(h.written))
	return hashOf(ended.words)
}

// Len tells how many bytes were written.
func (h *Hasher) Len() int {
	if h == nil {
		return 0
	}
	return h.written
}

// ending tells what stands behind that many bytes, up to the end of a block.
func ending(written int) []byte {
	const lastMark = blockSize - lengthSize - 1 // the mark's last place that leaves room for the length in its block
	noughts := (lastMark - written%blockSize + blockSize) % blockSize
	end := make([]byte, 1+noughts, 1+noughts+lengthSize)
	end[0] = 0x80
	bits := uint64(written) * 8
	for shift := 56; shift >= 0; shift -= 8 {
		end = append(end, byte(bits>>shift))
	}
	return end
}

// hashOf tells a state's bytes.
func hashOf(s state) api.Hash {
	var h api.Hash
	for i, w := range s {
		h[4*i] = byte(w >> 24)
		h[4*i+1] = byte(w >> 16)
		h[4*i+2] = byte(w >> 8)
		h[4*i+3] = byte(w)
	}
	return h
}

// Less tells whether one hash is ahead of another one.
func Less(a, b api.Hash) bool {
	if a == b {
		return false
	}
	i := 0
	for a[i] == b[i] { // ends: they differ somewhere
		i++
	}
	return a[i] < b[i]
}
