// Package word: bytes and numbers as words: see ../shared/doc/01-word.md.
package word

import "larder/api"

// How many bits the kind has, and how many a number of fields.
const (
	kindBits  = 8
	fieldBits = 24
)

// The places of a header's parts: the lowest bit of each.
const (
	kindAt = 0
	refsAt = kindBits + fieldBits*(iota-1)
	rawsAt
)

// Head makes an object's header word.
func Head(kind, refs, raws int) (uint64, api.Errno) {
	if kind < 1 || kind > api.MaxKind || !isFieldCount(refs) || !isFieldCount(raws) {
		return 0, api.ErrHead
	}
	return uint64(kind)<<kindAt | uint64(refs)<<refsAt | uint64(raws)<<rawsAt, api.OK
}

// Split takes a header word apart.
func Split(head uint64) (kind, refs, raws int, e api.Errno) {
	kind = part(head, kindAt, kindBits)
	refs = part(head, refsAt, fieldBits)
	raws = part(head, rawsAt, fieldBits)
	// Laid together again, the parts show stray bits above them too.
	if again, e := Head(kind, refs, raws); e != api.OK || again != head {
		return 0, 0, 0, api.ErrHead
	}
	return kind, refs, raws, api.OK
}

func isFieldCount(n int) bool {
	return n >= 0 && n <= api.MaxField
}

func part(head uint64, at, bits int) int {
	return int(head >> at & (1<<bits - 1))
}
