package heap_test

import (
	"testing"

	"larder/api"
)

func TestP3_7_Shapes(t *testing.T) {
	h := mixed(t)
	before := stateOf(h)
	for _, c := range [][3]int{
		{0, 0, 0}, {256, 0, 0}, {-1, 0, 0}, {most, 0, 0}, {least, 0, 0},
		{1, -1, 0}, {1, 0, -1}, {1, -1, 1}, {1, least, 0}, {1, 0, least}, {1, most, most},
		{1, api.MaxField + 1, 0}, {1, 0, api.MaxField + 1}, {0, 100, 100}, {256, 0, 64}, {1, -1, 100}, {1, 100, -1},
	} {
		refuseAlloc(t, h, c[0], c[1], c[2], api.ErrHeapShape)
	}
	wantState(t, h, before, "a refused Alloc")
	h = made(t, 1000)
	lay(t, h, 1, 0, 0, 1)
	lay(t, h, 255, 2, 1, 2)
	wantShape(t, h, 1, 1, 0, 0)
	wantShape(t, h, 2, 255, 2, 1)
	refuseAlloc(t, h, 1, api.MaxField, api.MaxField, api.ErrHeapFull)
}

func TestP3_7_ObjectsLieOneBehindTheOther(t *testing.T) {
	h := made(t, 1000)
	at := uint64(1)
	for i := range 8 {
		lay(t, h, 1+i, i, i/2, at)
		at += uint64(1 + i + i/2)
		if s := h.Stats(); s.Used != int(at) || s.Collections != 0 {
			t.Errorf("behind object %d: %+v, want Used %d", i, s, at)
		}
	}
}

func TestP3_7_ItCollectsOnlyWhenTheHalfIsFull(t *testing.T) {
	h := made(t, 1000)
	lay(t, h, 1, 0, 31, 1)
	lay(t, h, 2, 0, 30, 33) // Used 64: just full
	wantStats(t, h, api.HeapStats{Limit: 1000, Half: 64, Used: 64})
	root(t, h, 33)
	lay(t, h, 3, 0, 0, 32) // one more: collected, and what is live lies at 1
	wantStats(t, h, api.HeapStats{Limit: 1000, Half: 64, Used: 33, Roots: 1, Collections: 1, Moved: 31})
	wantAt(t, h, 1, 1)
	wantShape(t, h, 1, 2, 0, 30)
}

func TestP3_7_WhatIsAskedForIsFitted(t *testing.T) {
	// Used 33 with 31 held; 64 more: u = 96, want(96) = 128
	h := made(t, 1000)
	held(t, h, 1, 0, 30, 1)
	lay(t, h, 1, 0, 0, 32)
	lay(t, h, 2, 0, 63, 32)
	wantStats(t, h, api.HeapStats{Limit: 1000, Half: 128, Used: 96, Roots: 1, Collections: 1, Resizes: 1, Moved: 31})
	// Used 34 with 32 held; 64 more: u = 97, want(97) = 256
	h = made(t, 1000)
	held(t, h, 1, 0, 31, 1)
	lay(t, h, 2, 0, 63, 33)
	wantStats(t, h, api.HeapStats{Limit: 1000, Half: 256, Used: 97, Roots: 1, Collections: 1, Resizes: 1, Moved: 32})
	// The half may also become smaller, nothing being live in 600 words: what is asked for is counted all the same.
	for _, c := range []struct{ size, half int }{{10, 64}, {47, 64}, {48, 128}, {64, 128}} {
		h = grown(t, 2000, 600, 599)
		for handle := range h.Stats().Roots {
			h.Drop(1 + handle)
		}
		lay(t, h, 2, 0, c.size-1, 1)
		wantStats(t, h, api.HeapStats{Limit: 2000, Half: c.half, Used: 1 + c.size, Collections: 2, Resizes: 2})
	}
}

func TestP3_7_TheGreatestSmallObject(t *testing.T) {
	h := made(t, 1000)
	lay(t, h, 1, 31, 32, 1) // 64 words: small
	if s := h.Stats(); s.Slots != 0 || s.Used != 65 {
		t.Errorf("64 words: %+v", s)
	}
	lay(t, h, 1, 32, 32, slot0) // 65 words: large
	if s := h.Stats(); s.Slots != 1 || s.Large != 66 {
		t.Errorf("65 words: %+v", s)
	}
}

func TestP3_7_Full(t *testing.T) {
	h := made(t, 130) // 65 words a half
	held(t, h, 1, 0, 62, 1)
	held(t, h, 2, 0, 0, 64) // Used 65: the half has become 65
	before := stateOf(h)
	if before.stats.Half != 65 {
		t.Errorf("the half is %d, want 65", before.stats.Half)
	}
	for size := 1; size <= 64; size++ {
		refuseAlloc(t, h, 3, 0, size-1, api.ErrHeapFull)
	}
	if s := h.Stats(); s.Half != 65 || s.Used != 65 || s.Roots != 2 {
		t.Errorf("behind refused Allocs: %+v", s)
	}
	wantShape(t, h, 1, 1, 0, 62)
	wantShape(t, h, 64, 2, 0, 0)
	h.Drop(2)
	lay(t, h, 3, 0, 0, 64)
}

func TestP3_8_WhenABlockIsDue(t *testing.T) {
	h := made(t, 3000)
	if e := h.Resize(150); e != api.OK {
		t.Fatalf("Resize: %d", e)
	}
	// since + b up to H + kept = 150: no collection
	lay(t, h, 1, 0, 73, slot0)   // 75 words
	lay(t, h, 1, 0, 73, slot0+1) // 75
	wantStats(t, h, api.HeapStats{Limit: 3000, Half: 150, Used: 1, Large: 150, Slots: 2, Collections: 1, Resizes: 1})
	root(t, h, slot0+1)
	lay(t, h, 1, 0, 64, slot0) // 66 more: a collection, slot 1 is kept; the half is fitted: 8 is below 150
	wantStats(t, h, api.HeapStats{Limit: 3000, Half: 64, Used: 1, Large: 141, Slots: 2, Roots: 1, Collections: 2, Resizes: 2})
	// since is 66, kept 75, H 64: 139 are free of a collection, 73 more
	lay(t, h, 1, 0, 71, slot0+2)
	wantStats(t, h, api.HeapStats{Limit: 3000, Half: 64, Used: 1, Large: 214, Slots: 3, Roots: 1, Collections: 2, Resizes: 2})
	lay(t, h, 1, 0, 64, slot0) // 139 + 66 are above it
	wantStats(t, h, api.HeapStats{Limit: 3000, Half: 64, Used: 1, Large: 141, Slots: 2, Roots: 1, Collections: 3, Resizes: 2})
	// One word less than above, and one more: 66 + 73 is not above 139, 66 + 74 is.
	lay(t, h, 1, 0, 72, slot0)
	wantStats(t, h, api.HeapStats{Limit: 3000, Half: 64, Used: 1, Large: 149, Slots: 2, Roots: 1, Collections: 4, Resizes: 2})
}

func TestP3_8_EveryCollectionBeginsTheCountAnew(t *testing.T) {
	h := made(t, 3000)
	if e := h.Resize(100); e != api.OK {
		t.Fatalf("Resize: %d", e)
	}
	held(t, h, 1, 0, 88, slot0) // 90 of 100
	h.Resize(100)               // kept 90, since 0: 190 are free of a collection
	lay(t, h, 1, 0, 188, slot0+1)
	if got := h.Stats().Collections; got != 2 {
		t.Errorf("190 words behind a Resize: %d collections, want 2", got)
	}
	lay(t, h, 1, 0, 64, slot0+1)
	if got := h.Stats().Collections; got != 3 {
		t.Errorf("66 words more: %d collections, want 3", got)
	}
}

func TestP3_8_ACollectionWhenTheLimitIsPassed(t *testing.T) {
	h := made(t, 400)
	if e := h.Resize(160); e != api.OK { // 320 words: 80 are left
		t.Fatalf("Resize: %d", e)
	}
	held(t, h, 1, 0, 29, 1)    // Used 31: 8*31 is above 160
	lay(t, h, 1, 0, 78, slot0) // 80 words: just what is left, no collection
	wantStats(t, h, api.HeapStats{Limit: 400, Half: 160, Used: 31, Large: 80, Slots: 1, Roots: 1, Collections: 1, Resizes: 1})
	lay(t, h, 1, 0, 78, slot0) // a collection: the first is gone
	wantStats(t, h, api.HeapStats{Limit: 400, Half: 160, Used: 31, Large: 80, Slots: 1, Roots: 1, Collections: 2, Resizes: 1, Moved: 30})
	lay(t, h, 1, 0, 79, slot0) // 81 words: the half becomes (400 - 81)/2
	wantStats(t, h, api.HeapStats{Limit: 400, Half: 159, Used: 31, Large: 81, Slots: 1, Roots: 1, Collections: 3, Resizes: 2, Moved: 30})
	wantAt(t, h, 1, 1)
	wantShape(t, h, 1, 1, 0, 29)
}

func TestP3_8_TheHalfGivesWay(t *testing.T) {
	for _, c := range []struct {
		limit, half, used, words int // words of the block
		want                     int // the half then; 0: ErrHeapFull
	}{
		{1000, 300, 62, 602, 199},
		{1000, 300, 62, 601, 199},
		{1000, 300, 62, 600, 200},
		{1000, 300, 62, 872, 64},
		{1000, 300, 62, 873, 0}, // (1000 - 873)/2 is 63, below MinHalf
		{1000, 300, 62, 1000, 0},
		{1000, 300, 62, 1001, 0}, // below 0
		{1000, 300, 62, 5000, 0},
		{1000, 300, 90, 820, 90},
		{1000, 300, 90, 821, 0}, // 89, below Used
		{1000, 300, 90, 400, 300},
		{1000, 300, 90, 401, 299},
	} {
		h := grown(t, c.limit, c.half, c.used-1)
		if c.want == 0 {
			refuseAlloc(t, h, 9, 0, c.words-2, api.ErrHeapFull)
			wantStats(t, h, api.HeapStats{Limit: c.limit, Half: c.half, Used: c.used, Roots: h.Stats().Roots, Collections: 2, Resizes: 1, Moved: c.used - 1})
			continue
		}
		lay(t, h, 9, 0, c.words-2, slot0)
		if s := h.Stats(); s.Half != c.want || s.Used != c.used || s.Large != c.words {
			t.Errorf("%+v: %+v", c, s)
		}
		wantShape(t, h, 1, 7, 0, min(c.used-1, 64)-1)
	}
}

func TestP3_8_TheLowestSlot(t *testing.T) {
	h := made(t, 10000)
	for i := range 5 {
		held(t, h, 1+i, 1, 64+i, slot0+uint64(i))
	}
	for _, handle := range []int{4, 2} {
		h.Drop(handle)
	}
	h.Collect()
	lay(t, h, 6, 0, 70, slot0+1)
	root(t, h, slot0+1)
	lay(t, h, 7, 0, 70, slot0+3)
	root(t, h, slot0+3)
	lay(t, h, 8, 0, 70, slot0+5)
	for i, kind := range []int{1, 6, 3, 7, 5, 8} {
		if got, _, _, e := h.Object(slot0 + uint64(i)); got != kind || e != api.OK {
			t.Errorf("slot %d holds kind %d (%d), want %d", i, got, e, kind)
		}
	}
	if s := h.Stats(); s.Slots != 6 || s.Large != 67+72+69+72+71+72 {
		t.Errorf("%+v", s)
	}
}

func TestP3_8_TheGreatestBlock(t *testing.T) {
	h := made(t, api.MaxLimit)
	room := api.MaxLimit - 128 - 2
	refuseAlloc(t, h, 1, 0, room+1, api.ErrHeapFull)
	lay(t, h, 1, 2, room-2, slot0)
	set(t, h, slot0, room-1, 5)
	wantGet(t, h, slot0, room-1, 5)
	if s := h.Stats(); 2*s.Half+s.Large != s.Limit {
		t.Errorf("%+v: want all words in use", s)
	}
}

// TestP3_9_WhatWasThereDoesNotCount: just when an Alloc is refused hangs on what is live alone.
func TestP3_9_WhatWasThereDoesNotCount(t *testing.T) {
	for _, garbage := range []bool{false, true} {
		h := made(t, 1000)
		if garbage {
			h.Resize(400)
			for i := range 30 {
				h.Alloc(1, 0, i)
				h.Alloc(1, 0, 60+i)
			}
		}
		ref, _ := h.Alloc(3, 0, 98) // ll = 100, so a half has 450 words at most
		root(t, h, ref)
		for range 7 {
			ref, e := h.Alloc(4, 0, 59)
			if e != api.OK {
				t.Fatalf("garbage %v: Alloc: %d", garbage, e)
			}
			root(t, h, ref)
		}
		// ls = 421
		refuseAlloc(t, h, 5, 0, 29, api.ErrHeapFull)  // 451
		refuseAlloc(t, h, 5, 0, 100, api.ErrHeapFull) // 100 + 102 + 2*421 is above 1000
		refuseAlloc(t, h, 5, 0, 64, api.ErrHeapFull)  // 100 + 66 + 842 too
		if _, e := h.Alloc(5, 0, 28); e != api.OK {   // 450
			t.Errorf("garbage %v: 29 words were refused: %d", garbage, e)
		}
		for handle := 1; handle <= 8; handle++ {
			ref, _ := h.At(handle)
			if kind, _, _, e := h.Object(ref); kind != 3 && kind != 4 || e != api.OK {
				t.Errorf("garbage %v: handle %d leads to kind %d, %d", garbage, handle, kind, e)
			}
		}
	}
}
