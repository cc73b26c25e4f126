package heap_test

import (
	"slices"
	"testing"

	"larder/api"
	"larder/heap"
	"larder/word"
)

const (
	least, most = -1 << 63, 1<<63 - 1
	slot0       = uint64(1) << 63 // the ref of the object in slot 0
)

func made(t *testing.T, limit int) *heap.Heap {
	t.Helper()
	h, e := heap.New(limit)
	if e != api.OK || h == nil {
		t.Fatalf("New(%d) = %v, %d", limit, h, e)
	}
	return h
}

func head(kind, refs, raws int) uint64 {
	w, _ := word.Head(kind, refs, raws)
	return w
}

// lay allocates an object and holds its ref against the one that is wanted.
func lay(t *testing.T, h *heap.Heap, kind, refs, raws int, want uint64) {
	t.Helper()
	if ref, e := h.Alloc(kind, refs, raws); ref != want || e != api.OK {
		t.Fatalf("Alloc(%d, %d, %d) = %#x, %d, want %#x, OK", kind, refs, raws, ref, e, want)
	}
}

func refuseAlloc(t *testing.T, h *heap.Heap, kind, refs, raws int, want api.Errno) {
	t.Helper()
	if ref, e := h.Alloc(kind, refs, raws); ref != 0 || e != want {
		t.Errorf("Alloc(%d, %d, %d) = %#x, %d, want 0, %d", kind, refs, raws, ref, e, want)
	}
}

// held lays an object that a handle leads to.
func held(t *testing.T, h *heap.Heap, kind, refs, raws int, want uint64) {
	t.Helper()
	lay(t, h, kind, refs, raws, want)
	if _, e := h.Root(want); e != api.OK {
		t.Fatalf("Root(%#x): %d", want, e)
	}
}

func set(t *testing.T, h *heap.Heap, ref uint64, i int, v uint64) {
	t.Helper()
	if e := h.Set(ref, i, v); e != api.OK {
		t.Fatalf("Set(%#x, %d, %#x) = %d", ref, i, v, e)
	}
}

func wantGet(t *testing.T, h *heap.Heap, ref uint64, i int, want uint64) {
	t.Helper()
	if v, e := h.Get(ref, i); v != want || e != api.OK {
		t.Errorf("Get(%#x, %d) = %#x, %d, want %#x", ref, i, v, e, want)
	}
}

func wantShape(t *testing.T, h *heap.Heap, ref uint64, kind, refs, raws int) {
	t.Helper()
	if k, r, w, e := h.Object(ref); k != kind || r != refs || w != raws || e != api.OK {
		t.Errorf("Object(%#x) = %d, %d, %d, %d, want %d, %d, %d", ref, k, r, w, e, kind, refs, raws)
	}
}

func wantNone(t *testing.T, h *heap.Heap, refs ...uint64) {
	t.Helper()
	for _, ref := range refs {
		if kind, r, w, e := h.Object(ref); kind != 0 || r != 0 || w != 0 || e != api.ErrHeapRef {
			t.Errorf("Object(%#x) = %d, %d, %d, %d, want ErrHeapRef", ref, kind, r, w, e)
		}
	}
}

func wantAt(t *testing.T, h *heap.Heap, handle int, want uint64) {
	t.Helper()
	if ref, e := h.At(handle); ref != want || e != api.OK {
		t.Errorf("At(%d) = %#x, %d, want %#x", handle, ref, e, want)
	}
}

func wantImage(t *testing.T, h *heap.Heap, want ...uint64) {
	t.Helper()
	if got := h.Image(); !slices.Equal(got, want) {
		t.Errorf("Image() = %#x, want %#x", got, want)
	}
}

func wantStats(t *testing.T, h *heap.Heap, want api.HeapStats) {
	t.Helper()
	if got := h.Stats(); got != want {
		t.Errorf("Stats() = %+v, want %+v", got, want)
	}
}

// state is all that a heap tells of itself without being changed.
type state struct {
	stats   api.HeapStats
	image   []uint64
	handles []uint64
}

func stateOf(h *heap.Heap) state {
	s := state{stats: h.Stats(), image: h.Image()}
	for n := 1; n <= s.stats.Roots+1; n++ {
		ref, _ := h.At(n)
		s.handles = append(s.handles, ref)
	}
	return s
}

func wantState(t *testing.T, h *heap.Heap, want state, what string) {
	t.Helper()
	got := stateOf(h)
	if got.stats != want.stats || !slices.Equal(got.image, want.image) || !slices.Equal(got.handles, want.handles) {
		t.Errorf("%s changed the heap: %+v, before %+v", what, got, want)
	}
}

func TestP3_1_NewTakesLimits(t *testing.T) {
	for _, limit := range []int{128, 129, 1000, api.MaxLimit - 1, api.MaxLimit} {
		h := made(t, limit)
		wantStats(t, h, api.HeapStats{Limit: limit, Half: 64, Used: 1})
		wantImage(t, h, 0)
		wantNone(t, h, 0, 1, slot0)
		if _, e := h.At(1); e != api.ErrHeapHandle {
			t.Errorf("New(%d): At(1): %d, want ErrHeapHandle", limit, e)
		}
	}
}

func TestP3_1_NewRefusesLimits(t *testing.T) {
	for _, limit := range []int{127, 64, 1, 0, -1, -128, api.MaxLimit + 1, 1 << 40, least, most} {
		if h, e := heap.New(limit); h != nil || e != api.ErrHeapLimit {
			t.Errorf("New(%d) = %v, %d, want nil, ErrHeapLimit", limit, h, e)
		}
	}
}

func TestP3_12_StatsCount(t *testing.T) {
	h := made(t, 2000)
	held(t, h, 1, 0, 9, 1)
	lay(t, h, 1, 0, 4, 11)
	wantStats(t, h, api.HeapStats{Limit: 2000, Half: 64, Used: 16, Roots: 1})
	h.Collect()
	wantStats(t, h, api.HeapStats{Limit: 2000, Half: 64, Used: 11, Roots: 1, Collections: 1, Moved: 10})
	lay(t, h, 1, 0, 2, 11)
	held(t, h, 1, 0, 99, slot0) // 101 words in a block: a collection comes first
	wantStats(t, h, api.HeapStats{Limit: 2000, Half: 64, Used: 11, Large: 101, Slots: 1, Roots: 2, Collections: 2, Moved: 10})
	if e := h.Resize(70); e != api.OK {
		t.Fatalf("Resize(70): %d", e)
	}
	wantStats(t, h, api.HeapStats{Limit: 2000, Half: 70, Used: 11, Large: 101, Slots: 1, Roots: 2, Collections: 3, Resizes: 1, Moved: 10})
	h.Drop(1)
	if e := h.Resize(70); e != api.OK { // no other number: it does not count
		t.Fatalf("Resize(70) again: %d", e)
	}
	wantStats(t, h, api.HeapStats{Limit: 2000, Half: 70, Used: 1, Large: 101, Slots: 1, Roots: 1, Collections: 4, Resizes: 1})
	if e := h.Resize(1000); e != api.ErrHeapFull { // the collection counts, nothing was resized
		t.Fatalf("Resize(1000): %d", e)
	}
	h.Drop(2)
	h.Collect()
	wantStats(t, h, api.HeapStats{Limit: 2000, Half: 64, Used: 1, Collections: 6, Resizes: 2})
}

func TestP3_12_ImageTellsTheHalfInUse(t *testing.T) {
	h := made(t, 1000)
	lay(t, h, 3, 1, 2, 1)
	lay(t, h, 9, 0, 0, 5)
	lay(t, h, 7, 2, 0, 6)
	lay(t, h, 8, 0, 70, slot0) // it collects: nothing is live
	wantImage(t, h, 0)
	lay(t, h, 3, 1, 2, 1)
	lay(t, h, 7, 2, 0, 5)
	set(t, h, 1, 0, slot0)
	set(t, h, 1, 2, 77)
	set(t, h, 5, 1, 1)
	wantImage(t, h, 0, head(3, 1, 2), slot0, 0, 77, head(7, 2, 0), 0, 1)
}

func TestP3_12_NewFieldsAreZeroWhereOthersWere(t *testing.T) {
	h := made(t, 1000)
	for round := range 5 {
		lay(t, h, 1, 0, 40, 1)
		for i := range 40 {
			wantGet(t, h, 1, i, 0)
			set(t, h, 1, i, 1<<64-1)
		}
		h.Collect()
		if round%2 == 0 {
			h.Collect()
		}
	}
	lay(t, h, 1, 0, 70, slot0)
	for i := range 70 {
		set(t, h, slot0, i, 1<<64-1)
	}
	h.Collect()
	lay(t, h, 1, 30, 40, slot0)
	for i := range 70 {
		wantGet(t, h, slot0, i, 0)
	}
}

// TestExamples goes through the chapter's six examples.
func TestExamples(t *testing.T) {
	h := made(t, 128)
	lay(t, h, 5, 1, 2, 1)
	wantImage(t, h, 0, head(5, 1, 2), 0, 0, 0)
	lay(t, h, 6, 0, 0, 5)
	if n, e := h.Root(5); n != 1 || e != api.OK {
		t.Errorf("Root(5) = %d, %d", n, e)
	}
	h.Collect()
	wantAt(t, h, 1, 1)
	wantShape(t, h, 1, 6, 0, 0)
	wantNone(t, h, 5)
	wantStats(t, h, api.HeapStats{Limit: 128, Half: 64, Used: 2, Roots: 1, Collections: 1, Moved: 1})

	h = made(t, 1000)
	lay(t, h, 1, 0, 63, 1)
	wantStats(t, h, api.HeapStats{Limit: 1000, Half: 128, Used: 65, Collections: 1, Resizes: 1})

	h = made(t, 1000)
	lay(t, h, 1, 0, 64, slot0)
	wantStats(t, h, api.HeapStats{Limit: 1000, Half: 64, Used: 1, Large: 66, Slots: 1, Collections: 1})

	h = made(t, 128)
	lay(t, h, 1, 0, 62, 1)
	lay(t, h, 1, 0, 0, 1)
	h = made(t, 128)
	held(t, h, 1, 0, 62, 1)
	refuseAlloc(t, h, 1, 0, 0, api.ErrHeapFull)
}
