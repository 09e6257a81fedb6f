package op

import (
	"stemma/api"
	"stemma/column"
	"stemma/leb"
)

// Put lays operations.
func Put(l []api.Op) ([]byte, api.Errno) {
	if len(l) > api.MaxOps {
		return nil, api.ErrLong
	}
	for _, o := range l {
		if e := Check(o); e != api.OK {
			return nil, e
		}
	}
	return lay(l), api.OK
}

// lay tells the bytes of operations that may be.
func lay(l []api.Op) []byte {
	b := column.Runs(numbers(l, func(o api.Op) int { return o.Kind }))
	b = append(b, layNames(l)...)
	b = append(b, column.Deltas(numbers(l, func(o api.Op) int { return o.Pos }))...)
	b = append(b, column.Runs(numbers(l, func(o api.Op) int { return o.By }))...)
	for _, o := range l {
		if hasText(o.Kind) {
			b = append(b, leb.Text(o.Text)...)
		}
	}
	return b
}

// layNames tells the bytes of the names, each once, and of which one each operation has.
func layNames(l []api.Op) []byte {
	numberOf := make(map[string]int)
	var names []byte
	for _, o := range l {
		if _, there := numberOf[o.Name]; !there {
			numberOf[o.Name] = len(numberOf)
			names = append(names, leb.Text(o.Name)...)
		}
	}
	b := append(leb.Uint(uint64(len(numberOf))), names...)
	return append(b, column.Runs(numbers(l, func(o api.Op) int { return numberOf[o.Name] }))...)
}

// numbers tells one number of each operation.
func numbers(l []api.Op, of func(o api.Op) int) []int64 {
	picked := make([]int64, len(l))
	for i, o := range l {
		picked[i] = int64(of(o))
	}
	return picked
}
