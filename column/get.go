package column

import (
	"slices"

	"stemma/api"
	"stemma/leb"
)

// GetRuns takes numbers off.
func GetRuns(b []byte, most int) (l []int64, used int, e api.Errno) {
	return taken(b, most, readRuns)
}

// GetDeltas takes numbers off that were laid by their differences.
func GetDeltas(b []byte, most int) (l []int64, used int, e api.Errno) {
	l, used, e = GetRuns(b, most)
	for i := 1; i < len(l); i++ {
		l[i] += l[i-1]
	}
	return l, used, e
}

// GetFlags takes truths off.
func GetFlags(b []byte, most int) (l []bool, used int, e api.Errno) {
	return taken(b, most, readFlags)
}

// taken tells the list that read finds at the beginning of b, and how many bytes it has.
func taken[T any](b []byte, most int, read func(r *leb.Reader, most int) ([]T, api.Errno)) (l []T, used int, e api.Errno) {
	r := leb.Read(b)
	l, e = read(r, min(max(most, 0), api.MaxColumn))
	if e != api.OK {
		return nil, 0, e
	}
	return l, len(b) - r.Left(), api.OK
}

// readRuns reads runs of numbers, of at most most numbers in all.
func readRuns(r *leb.Reader, most int) ([]int64, api.Errno) {
	var l []int64
	for range r.Uint(uint64(most)) {
		length, e := readLength(r, most-len(l), 1)
		if e != api.OK {
			return nil, e
		}
		n := r.Int()
		if e := r.Err(); e != api.OK {
			return nil, e
		}
		if len(l) > 0 && n == l[len(l)-1] {
			return nil, api.ErrForm
		}
		l = append(l, slices.Repeat([]int64{n}, length)...)
	}
	return l, r.Err()
}

// readFlags reads stretches of truths, of at most most truths in all.
func readFlags(r *leb.Reader, most int) ([]bool, api.Errno) {
	var l []bool
	stretches := r.Uint(uint64(most) + 1)
	for i := range stretches {
		least := 1
		if i == 0 && stretches > 1 {
			least = 0 // there may be no false ahead of the first true
		}
		length, e := readLength(r, most-len(l), least)
		if e != api.OK {
			return nil, e
		}
		l = append(l, slices.Repeat([]bool{i%2 == 1}, length)...)
	}
	return l, r.Err()
}

// readLength reads how many a run has, where there is room for so many still, and there must be least of them.
func readLength(r *leb.Reader, room, least int) (int, api.Errno) {
	length := int(r.Uint(uint64(room)))
	if e := r.Err(); e != api.OK {
		return 0, e
	}
	if length < least {
		return 0, api.ErrForm
	}
	return length, api.OK
}
