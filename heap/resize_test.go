package heap_test

import (
	"slices"
	"testing"

	"larder/api"
	"larder/heap"
)

// grown makes a heap in which small objects of so many words in all are held, the half being as it was resized.
func grown(t *testing.T, limit, half, words int) *heap.Heap {
	t.Helper()
	h := made(t, limit)
	if e := h.Resize(half); e != api.OK {
		t.Fatalf("Resize(%d): %d", half, e)
	}
	at := 1
	for words > 0 {
		size := min(words, 64)
		held(t, h, 7, 0, size-1, uint64(at))
		at += size
		words -= size
	}
	return h
}

// TestP3_6_WhenTheHalfFits: behind a collection, what Collect (u = Used) makes of the half.
func TestP3_6_WhenTheHalfFits(t *testing.T) {
	for _, c := range []struct{ limit, half, used, want int }{
		{2000, 64, 1, 64},
		{2000, 64, 48, 64},  // 192 is not above 192
		{2000, 64, 49, 128}, // 196 is
		{2000, 64, 64, 128},
		{2000, 65, 48, 65},
		{2000, 65, 49, 128},   // 196 is above 195
		{2000, 128, 96, 128},  // 384 is not above 384
		{2000, 128, 97, 256},  // 388 is
		{2000, 100, 100, 256}, // want(100) is 256, as 400 is above 384
		{2000, 100, 75, 100},  // 300 is not above 300
		{2000, 100, 76, 128},  // 304 is
		{2000, 128, 17, 128},  // 136 is not below 128
		{2000, 128, 16, 128},  // nor 128
		{2000, 128, 15, 64},   // 120 is
		{2000, 137, 17, 64},
		{2000, 136, 17, 136},
		{2000, 512, 63, 128}, // 504 is below 512; want(63) is 128
		{2000, 512, 64, 512},
		{2000, 1000, 124, 256}, // 992 is below 1000
		{2000, 1000, 125, 1000},
		{2000, 65, 8, 64}, // 64 is below 65
		{2000, 65, 9, 65},
		{300, 128, 97, 150}, // want is 256, half of the limit 150
		{301, 128, 97, 150},
		{302, 128, 97, 151},
		{256, 128, 97, 128}, // no more than there is
		{257, 128, 128, 128},
		{258, 128, 97, 129},
		{250, 125, 96, 125}, // 384 is above 375, but half of the limit is 125
		{128, 64, 64, 64},
		{4000, 512, 385, 1024},
		{4000, 512, 384, 512},
	} {
		h := grown(t, c.limit, c.half, c.used-1)
		h.Collect()
		if s := h.Stats(); s.Half != c.want || s.Used != c.used {
			t.Errorf("limit %d, half %d, %d words used: the half is %d (used %d), want %d", c.limit, c.half, c.used, s.Half, s.Used, c.want)
		}
	}
}

func TestP3_6_LargeBlocksBoundTheHalf(t *testing.T) {
	h := made(t, 500)
	held(t, h, 1, 0, 298, slot0) // 300 words: 200 are left for the halves
	held(t, h, 1, 0, 50, 1)      // Used 52: 208 is above 192
	h.Collect()
	wantStats(t, h, api.HeapStats{Limit: 500, Half: 100, Used: 52, Large: 300, Slots: 1, Roots: 2, Collections: 2, Resizes: 1, Moved: 51})
	h.Drop(1)
	held(t, h, 1, 0, 30, 53-1)
	h.Collect() // Used 83: want is 128
	wantStats(t, h, api.HeapStats{Limit: 500, Half: 128, Used: 83, Roots: 2, Collections: 3, Resizes: 2, Moved: 82})
}

func TestP3_6_ObjectsStayAtTheirPlaces(t *testing.T) {
	h := made(t, 3000)
	held(t, h, 1, 2, 1, 1)
	held(t, h, 2, 0, 30, 5)
	held(t, h, 3, 1, 1, 36)
	held(t, h, 4, 1, 70, slot0)
	set(t, h, 1, 0, 36)
	set(t, h, 1, 1, slot0)
	set(t, h, 36, 0, 1)
	set(t, h, slot0, 0, 5)
	fill(t, h, 5, 240)
	before := h.Image()
	for _, half := range []int{64, 1000, 39, 100, 500, 65} {
		want := api.OK
		if half < 64 {
			want = api.ErrHeapHalf
		}
		if e := h.Resize(half); e != want {
			t.Fatalf("Resize(%d) = %d, want %d", half, e, want)
		}
		// The handles are in the order of their places: a collection moves nothing.
		if got := h.Image(); !slices.Equal(got[:36], before[:36]) {
			t.Errorf("behind Resize(%d): %#x, before %#x", half, got, before)
		}
		for handle, ref := range []uint64{1, 5, 36, slot0} {
			wantAt(t, h, handle+1, ref)
		}
		wantGet(t, h, slot0, 0, 5)
	}
}

func TestP3_11_ResizeRefusesHalves(t *testing.T) {
	h := grown(t, api.MaxLimit, 64, 20)
	before := stateOf(h)
	for _, half := range []int{63, 1, 0, -1, -64, api.MaxLimit/2 + 1, api.MaxLimit, least, most} {
		if e := h.Resize(half); e != api.ErrHeapHalf {
			t.Errorf("Resize(%d) = %d, want ErrHeapHalf", half, e)
		}
	}
	wantState(t, h, before, "a refused Resize")
	for _, half := range []int{64, api.MaxLimit / 2} {
		if e := h.Resize(half); e != api.OK {
			t.Errorf("Resize(%d) = %d", half, e)
		}
		if got := h.Stats().Half; got != half {
			t.Errorf("behind Resize(%d) the half is %d", half, got)
		}
	}
}

func TestP3_11_ResizeIsHeldToTheLimit(t *testing.T) {
	h := made(t, 1001)
	held(t, h, 1, 0, 99, slot0) // 101 words: 900 are left
	lay(t, h, 1, 0, 9, 1)       // garbage
	if e := h.Resize(451); e != api.ErrHeapFull {
		t.Errorf("Resize(451) = %d, want ErrHeapFull", e)
	}
	// It has collected all the same.
	wantStats(t, h, api.HeapStats{Limit: 1001, Half: 64, Used: 1, Large: 101, Slots: 1, Roots: 1, Collections: 2})
	if e := h.Resize(450); e != api.OK {
		t.Errorf("Resize(450) = %d", e)
	}
	wantStats(t, h, api.HeapStats{Limit: 1001, Half: 450, Used: 1, Large: 101, Slots: 1, Roots: 1, Collections: 3, Resizes: 1})
	h.Drop(1)
	if e := h.Resize(500); e != api.OK { // the block goes first
		t.Errorf("Resize(500) = %d", e)
	}
	wantStats(t, h, api.HeapStats{Limit: 1001, Half: 500, Used: 1, Collections: 4, Resizes: 2})
}

func TestP3_11_ResizeIsHeldToWhatIsLive(t *testing.T) {
	h := grown(t, 1000, 200, 99) // Used 100
	lay(t, h, 1, 0, 30, 100)     // garbage
	if e := h.Resize(99); e != api.ErrHeapFull {
		t.Errorf("Resize(99) = %d, want ErrHeapFull", e)
	}
	wantStats(t, h, api.HeapStats{Limit: 1000, Half: 200, Used: 100, Roots: 2, Collections: 2, Resizes: 1, Moved: 99})
	if e := h.Resize(100); e != api.OK {
		t.Errorf("Resize(100) = %d", e)
	}
	// It is not fitted behind that, though 400 is above 300.
	wantStats(t, h, api.HeapStats{Limit: 1000, Half: 100, Used: 100, Roots: 2, Collections: 3, Resizes: 2, Moved: 99})
	wantShape(t, h, 1, 7, 0, 63)
	wantShape(t, h, 65, 7, 0, 34)
}
