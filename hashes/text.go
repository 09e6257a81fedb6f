package hashes

import (
	"strings"

	"stemma/api"
	"stemma/sha"
)

// none stands for a list without hashes, and is no name, so that it can't be taken for one.
const none = "-"

// Text tells a list as digits.
func Text(l []api.Hash) string {
	if len(l) == 0 {
		return none
	}
	digits := make([]string, len(l))
	for i, h := range l {
		digits[i] = sha.Hex(h)
	}
	return strings.Join(digits, ",")
}

// Name tells whether a text is a name.
func Name(s string) bool {
	if len(s) == 0 || len(s) > api.MaxName || s == none {
		return false
	}
	for i := range len(s) { // by bytes: ranging over the text would go by runes
		if !ofName(s[i]) {
			return false
		}
	}
	return true
}

// ofName tells whether a byte may stand in a name.
func ofName(c byte) bool {
	switch {
	case 'a' <= c && c <= 'z', 'A' <= c && c <= 'Z', '0' <= c && c <= '9':
		return true
	}
	return c == '.' || c == '_' || c == '-'
}
