package arena

import "larder/api"

// No head has this bit: with it a word in a head's place tells where the object was moved to.
const movedBit uint64 = 1 << 63

// Take copies an object of another block behind this block's own, once, and tells where it lies now.
func (a *Arena) Take(src *Arena, at int) (int, api.Errno) {
	to, moved, e := src.Moved(at)
	if e != api.OK || moved {
		return to, e
	}
	fields, _, e := src.fields(at)
	if e != api.OK {
		return 0, e
	}
	n := 1 + len(fields)
	to, object, e := a.grow(n)
	if e != api.OK {
		return 0, e
	}
	copy(object, src.span(at, n))
	src.words[at] = movedBit | uint64(to)
	return to, api.OK
}

// Moved tells where the object that began there has been taken.
func (a *Arena) Moved(at int) (int, bool, api.Errno) {
	if !a.begins(at) {
		return 0, false, api.ErrArenaAt
	}
	if !isMoved(a.words[at]) {
		return 0, false, api.OK
	}
	return int(a.words[at] &^ movedBit), true, api.OK
}

func isMoved(head uint64) bool { return head&movedBit != 0 }
