package json

import "countersign/api"

// What DOC.md promises anything for. A list may stand within itself, or many times in another: then there is no end to the
// values in it, or none that a call lives to see.
const (
	mostBytes  = 1<<31 - 1
	mostLevels = 1 << 16
	valueBytes = 64 // a Value takes more
	nameBytes  = 16
)

// fits says whether v is no greater than that: then all of it may be gone through.
func fits(v api.Value) bool {
	left := mostBytes
	return within(v, 1, &left)
}

// within takes the bytes of v from those that are left.
func within(v api.Value, level int, left *int) bool {
	*left -= valueBytes + len(v.S)
	for _, name := range v.Names {
		*left -= nameBytes + len(name)
	}
	if *left < 0 || level > mostLevels {
		return false
	}
	for _, kid := range v.Kids {
		if !within(kid, level+1, left) {
			return false
		}
	}
	return true
}
