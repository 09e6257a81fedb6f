package sha

import "stemma/api"

const digits = "0123456789abcdef"

// hexLength is two digits a byte of a hash.
const hexLength = 64

// Hex tells a hash's digits.
func Hex(h api.Hash) string {
	var text [hexLength]byte
	for i, b := range h {
		text[2*i] = digits[b>>4]
		text[2*i+1] = digits[b&15]
	}
	return string(text[:])
}

// Parse reads a hash's digits.
func Parse(s string) (api.Hash, api.Errno) {
	if len(s) < hexLength {
		return api.Hash{}, api.ErrCut
	}
	if len(s) > hexLength {
		return api.Hash{}, api.ErrTail
	}
	var h api.Hash
	for i := range h {
		high, okHigh := digitOf(s[2*i])
		low, okLow := digitOf(s[2*i+1])
		if !okHigh || !okLow {
			return api.Hash{}, api.ErrForm
		}
		h[i] = high<<4 | low
	}
	return h, api.OK
}

// digitOf tells a digit's number, and whether it is a digit that Hex writes.
func digitOf(c byte) (byte, bool) {
	switch {
	case '0' <= c && c <= '9':
		return c - '0', true
	case 'a' <= c && c <= 'f':
		return c - 'a' + 10, true
	}
	return 0, false
}
