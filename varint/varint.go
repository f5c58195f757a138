// Package varint is layer 1: numbers of a few bytes, seven bits a byte, the lowest first (shared/doc/01-varint.md).
package varint

import "lagleash/api"

const (
	groupBits = 7
	groupMask = 1<<groupBits - 1 // a group alone: such a byte ends its number
	goesOn    = 1 << groupBits   // set in every byte of a number but its last
	lastPlace = 9                // where the tenth byte stands: only the 64th bit is left for it
)

// Append answers b's bytes with x's behind them. It never appends to b itself: the spare room of b is the caller's.
func Append(b []byte, x uint64) []byte {
	out := make([]byte, 0, len(b)+Size(x))
	out = append(out, b...)
	for {
		if x <= groupMask {
			out = append(out, byte(x))
			break
		}
		out = append(out, byte(x&groupMask)|goesOn)
		x >>= groupBits
	}
	return out
}

// Read answers the number that b begins with, and how many bytes it has.
func Read(b []byte) (x uint64, n int, e api.Errno) {
	for {
		if n == len(b) {
			return 0, 0, api.ErrBad
		}
		c := b[n]
		if n == lastPlace && c > 1 {
			return 0, 0, api.ErrBad
		}
		x |= uint64(c&groupMask) << (groupBits * n)
		n++
		if c <= groupMask {
			break
		}
	}
	// A number has just one list of bytes: a last group of 0 would be a second one.
	if n > 1 && b[n-1] == 0 {
		return 0, 0, api.ErrBad
	}
	return x, n, api.OK
}

// Size answers how many bytes x has.
func Size(x uint64) int {
	n := 1
	for {
		x >>= groupBits
		if x == 0 {
			break
		}
		n++
	}
	return n
}

// Small answers the number that b begins with, as an int, if it is not above most.
func Small(b []byte, most int) (x, n int, e api.Errno) {
	wide, n, e := Read(b)
	if e != api.OK {
		return 0, 0, e
	}
	// A most below 0 would be a great number without its sign.
	if most < 0 || wide > uint64(most) {
		return 0, 0, api.ErrBad
	}
	return int(wide), n, api.OK
}
