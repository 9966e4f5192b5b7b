// Package handle is layer 1, handles that are packed into words: see shared/doc/01-handle.md.
package handle

import (
	"strconv"

	"reprieve/api"
)

// The lowest bits of the marks and of the tag; the index begins at bit 0.
const (
	marksAt = 22
	tagAt   = 24
)

// May reports whether these can be the parts of a handle.
func May(index, marks int, tag uint64) bool {
	return index >= 0 && index <= api.MaxIndex && marks >= 0 && marks <= api.MaxMarks && tag <= api.MaxEra
}

// Pack is 0, a handle that refers to no slot, if there is no handle with these parts.
func Pack(index, marks int, tag uint64) uint64 {
	if !May(index, marks, tag) {
		return 0
	}
	return uint64(index) | uint64(marks)<<marksAt | tag<<tagAt
}

// part is what cuts one part out of a word. Its largest value serves as the mask, since all the bits of a part can be set.
func part(at uint, largest uint64) func(h uint64) uint64 {
	return func(h uint64) uint64 { return h >> at & largest }
}

// Index is 0 if the handle refers to no slot.
func Index(h uint64) int {
	cut := part(0, api.MaxIndex)
	return int(cut(h))
}

// Marks is a number from 0 to api.MaxMarks.
func Marks(h uint64) int {
	cut := part(marksAt, api.MaxMarks)
	return int(cut(h))
}

// Tag is a number from 0 to api.MaxEra.
func Tag(h uint64) uint64 {
	cut := part(tagAt, api.MaxEra)
	return cut(h)
}

// With leaves the handle as it is if the marks are not allowed.
func With(h uint64, marks int) uint64 {
	index, tag := Index(h), Tag(h)
	if !May(index, marks, tag) {
		return h
	}
	return Pack(index, marks, tag)
}

// Clean is the handle without marks.
func Clean(h uint64) uint64 { return With(h, 0) }

// Same looks at the indexes alone: a slot's handles may differ in marks and tag.
func Same(a, b uint64) bool { return Index(a) == Index(b) }

// Text is the one text of a handle.
func Text(h uint64) string {
	text := strconv.Itoa(Index(h))
	for i, sign := range signs {
		if Marks(h)&(1<<i) != 0 {
			text += string(sign)
		}
	}
	if tag := Tag(h); tag != 0 {
		text += string(tagSign) + strconv.FormatUint(tag, 10)
	}
	return text
}

// Read refuses every string but the one text of a handle.
func Read(s string) (uint64, api.Errno) {
	var r reader
	for _, c := range s {
		if !r.take(c) {
			return 0, api.ErrBytes
		}
	}
	if !r.whole() {
		return 0, api.ErrBytes
	}
	return Pack(int(r.index.value), r.marks, r.tag.value), api.OK
}
