package cas

import (
	"iter"
	"slices"
	"strconv"
	"strings"

	"brazier/api"
	"brazier/digest"
	"brazier/wal"
)

// How the names of all entries begin.
const mark = "c-"

// How many digits a sum has, and how many slots there are for keys whose sums begin alike.
const (
	allDigits = 64
	allSlots  = 8
)

func mayDigits(n int) bool { return n >= 0 && n <= allDigits }

// stem is the names of a key's files, but for the slot's number.
func stem(key []byte, digits int) string { return mark + digest.Name(key)[:digits] + "-" }

// FileOf: P6.1.
func FileOf(key []byte, digits, slot int) string {
	if !mayDigits(digits) || slot < 0 || slot >= allSlots {
		return ""
	}
	return stem(key, digits) + strconv.Itoa(slot)
}

// filesOf is a loop over the names of a key's files, from the first slot on. The key's sum is reckoned once for all of them.
func filesOf(key []byte, digits int) iter.Seq[string] {
	return func(yield func(string) bool) {
		name := stem(key, digits)
		for slot := range allSlots {
			if !yield(name + strconv.Itoa(slot)) {
				return
			}
		}
	}
}

// Entry: P6.1.
func Entry(key, art []byte) ([]byte, api.Errno) {
	first, err := wal.Frame(key)
	if err != api.OK {
		return nil, err
	}
	second, err := wal.Frame(art)
	if err != api.OK {
		return nil, err
	}
	return slices.Concat(first, second), api.OK
}

// Parse: P6.1.
func Parse(b []byte) (key, art []byte, ok bool) {
	records, good := wal.Parse(b)
	if len(records) != 2 || good < len(b) {
		return nil, nil, false
	}
	return records[0], records[1], true
}

// named tells whether a file's name is one of an entry, or of what is left of one.
func named(name string) bool { return strings.HasPrefix(name, mark) }

// sound is the key of a file with this name and these bytes, if it is a sound one.
func sound(name string, b []byte, digits int) ([]byte, bool) {
	if !named(name) {
		return nil, false
	}
	key, _, whole := Parse(b)
	if !whole {
		return nil, false
	}
	for own := range filesOf(key, digits) {
		if own == name {
			return key, true
		}
	}
	return nil, false
}
