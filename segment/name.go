package segment

import (
	"strconv"
	"strings"
)

const (
	// prefix is what all segments' names begin with.
	prefix = "seg-"
	// digits is how many digits a name has behind it.
	digits = 6
	// maxNumber is the greatest number of so many digits.
	maxNumber = 999999
)

// Name tells a segment's file.
func Name(n int) string {
	if n < 1 || n > maxNumber {
		return ""
	}
	told := strconv.Itoa(n)
	return prefix + strings.Repeat("0", digits-len(told)) + told
}

// Number tells which segment a file is.
func Number(name string) int {
	told, _ := strings.CutPrefix(name, prefix)
	n, err := strconv.Atoi(told)
	if err != nil || Name(n) != name { // Atoi reads more than Name tells: a sign, fewer noughts, more of them
		return 0
	}
	return n
}
