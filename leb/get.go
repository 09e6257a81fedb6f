package leb

import (
	"bytes"

	"stemma/api"
)

// GetUint takes a number off.
func GetUint(b []byte) (n uint64, used int, e api.Errno) {
	bits, groups, e := groupsOf(b)
	if e != api.OK {
		return 0, 0, e
	}
	if !bytes.Equal(groups, Uint(bits)) {
		return 0, 0, api.ErrForm
	}
	return bits, len(groups), api.OK
}

// GetInt takes a number off that may be below 0.
func GetInt(b []byte) (n int64, used int, e api.Errno) {
	bits, groups, e := groupsOf(b)
	if e != api.OK {
		return 0, 0, e
	}
	if groups[len(groups)-1]&sign != 0 {
		bits |= ^uint64(0) << (groupBits * len(groups)) // nothing is left to fill above ten groups
	}
	if !bytes.Equal(groups, Int(int64(bits))) {
		return 0, 0, api.ErrForm
	}
	return int64(bits), len(groups), api.OK
}

// GetText takes a text off.
func GetText(b []byte, most int) (s string, used int, e api.Errno) {
	n, used, e := GetUint(b)
	if e != api.OK {
		return "", 0, e
	}
	if most < 0 || n > uint64(most) {
		return "", 0, api.ErrLong
	}
	if n > uint64(len(b)-used) {
		return "", 0, api.ErrCut
	}
	end := used + int(n)
	return string(b[used:end]), end, api.OK
}

// groupsOf tells the first groups of b up to one that no other follows, and their bits. Bits above the 64th are lost,
// and groups that were not needed leave no trace in the bits: so the callers ask whether the number is laid by these groups.
func groupsOf(b []byte) (bits uint64, groups []byte, e api.Errno) {
	for i := range mostGroups {
		if i == len(b) {
			return 0, nil, api.ErrCut
		}
		bits |= uint64(b[i]&groupMask) << (groupBits * i)
		if b[i]&more == 0 {
			return bits, b[:i+1], api.OK
		}
	}
	return 0, nil, api.ErrForm
}
