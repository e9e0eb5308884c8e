package wal

import (
	"iter"
	"slices"

	"brazier/api"
	"brazier/digest"
	"brazier/word"
)

// The bytes of a length, and of a sum.
const wordSize = 4

// Frame: P5.1.
func Frame(b []byte) ([]byte, api.Errno) {
	if len(b) > api.MaxText {
		return nil, api.ErrBig
	}
	frame := append(word.Put(nil, int32(len(b))), b...)
	return word.Put(frame, int32(digest.Crc(frame))), api.OK
}

// Parse: P5.1.
func Parse(b []byte) (records [][]byte, good int) {
	for record, behind := range frames(b) {
		records = append(records, slices.Clone(record))
		good = behind
	}
	return records, good
}

// frames is a loop over the whole frames at the front of b: the record of each, a piece of b, and the place behind it.
func frames(b []byte) iter.Seq2[[]byte, int] {
	return func(yield func([]byte, int) bool) {
		behind := 0
		for record, whole := first(b); whole; record, whole = first(b[behind:]) {
			behind += wordSize + len(record) + wordSize
			if !yield(record, behind) {
				return
			}
		}
	}
}

// first is the record of the frame that b begins with, if it begins with a whole one.
func first(b []byte) ([]byte, bool) {
	n, there := word.Get(b, 0)
	if !there || n < 0 || n > api.MaxText {
		return nil, false
	}
	end := wordSize + int(n)
	sum, there := word.Get(b, end)
	if !there || uint32(sum) != digest.Crc(b[:end]) {
		return nil, false
	}
	return b[wordSize:end], true
}
