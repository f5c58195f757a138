// Package sharing is of use to tests alone: it tells whether a call that puts bytes behind others leaves those alone, and answers new memory (shared/DOC.md, rule 4).
package sharing

import (
	"bytes"
	"slices"
	"strconv"
)

const (
	room  = 128  // bytes that are there, some of which are handed in and the rest of which is their spare room
	mark  = 0xEE // what these are filled with
	other = 0x55 // what memory is overwritten with
)

// Append calls put with bytes that have much, little and no spare room, and answers what is wrong: "", if nothing is.
func Append(put func(b []byte) []byte) string {
	for _, used := range [...]int{0, 1, 5, room - 20, room - 4, room - 1, room} {
		if wrong := behind(put, used); wrong != "" {
			return "behind " + strconv.Itoa(used) + " bytes: " + wrong
		}
	}
	return ""
}

// behind asks put for the same bytes twice: overwriting one answer, spare room and all, must not be seen anywhere else.
func behind(put func(b []byte) []byte, used int) string {
	whole := marked()
	first := put(whole[:used])
	second := put(whole[:used])
	if !isMarked(whole) {
		return "these, or their spare room, were written to"
	}
	keep := slices.Clone(second)
	all := first[:cap(first)]
	if bytes.IndexByte(all[len(first):], mark) >= 0 {
		return "their spare room was handed out"
	}
	overwrite(all)
	if !isMarked(whole) {
		return "the answer shares memory with them"
	}
	overwrite(whole)
	if !bytes.Equal(second, keep) {
		return "an answer was changed later"
	}
	return ""
}

func marked() []byte { return bytes.Repeat([]byte{mark}, room) }

func isMarked(b []byte) bool { return bytes.Equal(b, marked()) }

func overwrite(b []byte) {
	for i := range b {
		b[i] = other
	}
}
