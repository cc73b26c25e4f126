package heap

import (
	"larder/api"
	"larder/word"
)

// Alloc makes an object whose fields are 0; it may collect and resize.
func (h *Heap) Alloc(kind, refs, raws int) (uint64, api.Errno) {
	if _, e := word.Head(kind, refs, raws); e != api.OK {
		return 0, api.ErrHeapShape
	}
	size := 1 + refs + raws
	if size > api.LargeWords {
		// Word 0 of a block counts too.
		return h.allocLarge(kind, refs, raws, 1+size)
	}
	return h.allocSmall(kind, refs, raws, size)
}

func (h *Heap) allocSmall(kind, refs, raws, size int) (uint64, api.Errno) {
	if h.half.Used()+size > h.half.Size() {
		h.collect()
		h.fit(size)
	}
	at, e := h.half.Alloc(kind, refs, raws)
	if e != api.OK {
		return 0, api.ErrHeapFull
	}
	return uint64(at), api.OK
}

// allocLarge begins a block of that many words, just what the object and word 0 take.
func (h *Heap) allocLarge(kind, refs, raws, words int) (uint64, api.Errno) {
	if h.passesLimit(words) || h.isDue(words) {
		h.Collect()
	}
	if h.passesLimit(words) && !h.giveWay(words) {
		return 0, api.ErrHeapFull
	}
	in := newArena(words)
	in.Alloc(kind, refs, raws)
	h.large += words
	return largeRef | uint64(h.blocks.add(&block{Arena: in})), api.OK
}

func (h *Heap) passesLimit(words int) bool {
	return 2*h.half.Size()+h.large+words > h.limit
}

// isDue tells whether so much has been begun in blocks since the last collection that it is time for the next one: else blocks that nobody holds would fill the heap up to its limit.
func (h *Heap) isDue(words int) bool {
	since := h.large - h.kept // blocks go in collections only
	return since+words > h.half.Size()+h.kept
}

// giveWay makes the half smaller, so that a block of that many words has room beside it; false, if it can't.
func (h *Heap) giveWay(words int) bool {
	// Where less than nothing is left, that is below MinHalf too.
	half := (h.limit - h.large - words) / 2
	if half < api.MinHalf || half < h.half.Used() {
		return false
	}
	h.become(half)
	return true
}
