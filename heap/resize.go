package heap

import (
	"larder/api"
	"larder/arena"
)

// Resize collects into halves of another size.
func (h *Heap) Resize(half int) api.Errno {
	if half < api.MinHalf || half > api.MaxLimit/2 {
		return api.ErrHeapHalf
	}
	h.collect()
	if h.half.Used() > half || 2*half+h.large > h.limit {
		return api.ErrHeapFull
	}
	h.become(half)
	return api.OK
}

// fit makes the half greater or smaller, as what is used and s words more ask for it; right behind a collection.
func (h *Heap) fit(s int) {
	used, half := h.half.Used()+s, h.half.Size()
	if 4*used > 3*half {
		if wider := min(want(used), (h.limit-h.large)/2); wider > half {
			h.become(wider)
		}
		return
	}
	if half > api.MinHalf && 8*used < half {
		h.become(want(used))
	}
}

// want tells the half that so many words in use ask for: they fill three quarters of it at most.
func want(used int) int {
	half := api.MinHalf
	for 4*used > 3*half {
		half *= 2
	}
	return half
}

// become gives both halves that many words; every object stays at its place.
func (h *Heap) become(words int) {
	if words == h.half.Size() {
		return
	}
	half := newArena(words)
	takeAll(half, h.half)
	h.half, h.spare = half, newArena(words)
	h.resizes++
}

// takeAll lays all objects of a block into an empty one: as there are gaps in neither, each comes to lie at the place that it had.
func takeAll(to, from *arena.Arena) {
	for at := firstPlace; at < from.Used(); {
		_, refs, raws, _ := from.Object(at)
		to.Take(from, at)
		at += 1 + refs + raws
	}
}

// newArena makes an empty half or block; none that the heap has words for is refused.
func newArena(words int) *arena.Arena {
	a, _ := arena.New(words)
	return a
}
