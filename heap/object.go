package heap

import (
	"larder/api"
	"larder/arena"
)

// largeRef: the bit by which a ref leads to a slot, not to a place in the half.
const largeRef uint64 = 1 << 63

// firstPlace: where the first object of a half begins, and the only one of a block.
const firstPlace = 1

// holder is what holds objects: the half holds the small ones, a block its one large object.
type holder interface {
	Object(at int) (kind, refs, raws int, e api.Errno)
	Get(at, i int) (uint64, api.Errno)
	Set(at, i int, v uint64) api.Errno
	Bytes(at, from, n int) ([]byte, api.Errno)
	SetBytes(at, from int, b []byte) api.Errno
}

// block holds one large object, which stays where it is.
type block struct {
	*arena.Arena
	reached int // the collection that reached it last
}

// Object tells an object's shape.
func (h *Heap) Object(ref uint64) (kind, refs, raws int, e api.Errno) {
	in, at, e := h.find(ref)
	if e != api.OK {
		return 0, 0, 0, e
	}
	kind, refs, raws, e = in.Object(at)
	return kind, refs, raws, asHeap(e)
}

// Get tells a field.
func (h *Heap) Get(ref uint64, i int) (uint64, api.Errno) {
	in, at, e := h.find(ref)
	if e != api.OK {
		return 0, e
	}
	v, e := in.Get(at, i)
	return v, asHeap(e)
}

// Set changes a field.
func (h *Heap) Set(ref uint64, i int, v uint64) api.Errno {
	in, at, e := h.find(ref)
	if e != api.OK {
		return e
	}
	_, refs, _, e := in.Object(at)
	if e != api.OK {
		return asHeap(e)
	}
	// A field that isn't there is left to the holder to refuse: it is no ref, whatever v is.
	if i >= 0 && i < refs && !h.mayHold(v) {
		return api.ErrHeapRef
	}
	return asHeap(in.Set(at, i, v))
}

// Bytes tells n bytes of the raws.
func (h *Heap) Bytes(ref uint64, from, n int) ([]byte, api.Errno) {
	in, at, e := h.find(ref)
	if e != api.OK {
		return nil, e
	}
	b, e := in.Bytes(at, from, n)
	return b, asHeap(e)
}

// SetBytes changes bytes of the raws.
func (h *Heap) SetBytes(ref uint64, from int, b []byte) api.Errno {
	in, at, e := h.find(ref)
	if e != api.OK {
		return e
	}
	return asHeap(in.SetBytes(at, from, b))
}

// find tells what holds the object of that ref, and its place there. Whether an object begins at a place of the half, the half itself tells when it is asked.
func (h *Heap) find(ref uint64) (holder, int, api.Errno) {
	if !isLarge(ref) {
		return h.half, int(ref), api.OK
	}
	in, found := h.blocks.get(slotOf(ref))
	if !found {
		return nil, 0, api.ErrHeapRef
	}
	return in, firstPlace, api.OK
}

// mayHold tells whether a handle or a ref field may hold that.
func (h *Heap) mayHold(ref uint64) bool {
	if ref == 0 {
		return true
	}
	_, _, _, e := h.Object(ref)
	return e == api.OK
}

func isLarge(ref uint64) bool { return ref&largeRef != 0 }

func slotOf(ref uint64) int { return int(ref &^ largeRef) }

// asHeap tells by the heap's error what a holder has refused.
func asHeap(e api.Errno) api.Errno {
	switch e {
	case api.ErrArenaAt:
		return api.ErrHeapRef
	case api.ErrArenaField, api.ErrArenaSpan:
		return api.ErrHeapField
	}
	return e
}
