package arena

import (
	"larder/api"
	"larder/word"
)

// wordBytes: how many bytes a word holds.
const wordBytes = 8

// Bytes tells n bytes of the raws.
func (a *Arena) Bytes(at, from, n int) ([]byte, api.Errno) {
	run, e := a.run(at, from, n)
	if e != api.OK {
		return nil, e
	}
	skip := from % wordBytes
	b, e := word.Unpack(run, skip+n)
	if e != api.OK {
		return nil, e
	}
	return b[skip:], api.OK
}

// SetBytes changes bytes of the raws.
func (a *Arena) SetBytes(at, from int, b []byte) api.Errno {
	run, e := a.run(at, from, len(b))
	if e != api.OK {
		return e
	}
	// The first and the last word may hold bytes that stay: so the whole words are taken apart, and laid together again.
	whole, e := word.Unpack(run, wordBytes*len(run))
	if e != api.OK {
		return e
	}
	copy(whole[from%wordBytes:], b)
	copy(run, word.Pack(whole))
	return api.OK
}

// run tells those of an object's raws in which the n bytes from that one on stand.
func (a *Arena) run(at, from, n int) ([]uint64, api.Errno) {
	fields, refs, e := a.fields(at)
	if e != api.OK {
		return nil, e
	}
	raws := fields[refs:]
	all := wordBytes * len(raws)
	// from + n may leave int, all - from can't.
	if from < 0 || n < 0 || n > all-from {
		return nil, api.ErrArenaSpan
	}
	lo, hi := from/wordBytes, word.Words(from+n)
	return raws[lo:hi:hi], api.OK
}
