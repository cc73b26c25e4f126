package heap_test

import (
	"testing"

	"larder/api"
	"larder/heap"
)

func root(t *testing.T, h *heap.Heap, refs ...uint64) {
	t.Helper()
	for _, ref := range refs {
		if _, e := h.Root(ref); e != api.OK {
			t.Fatalf("Root(%#x): %d", ref, e)
		}
	}
}

func TestP3_5_OnlyWhatIsLiveStays(t *testing.T) {
	h := made(t, 1000)
	lay(t, h, 1, 1, 1, 1) // garbage, though it leads to what is live
	lay(t, h, 2, 0, 2, 4)
	lay(t, h, 3, 1, 0, 7) // held, leads to 4
	lay(t, h, 4, 1, 0, 9) // garbage that leads to itself
	set(t, h, 1, 0, 7)
	set(t, h, 4, 1, 44)
	set(t, h, 7, 0, 4)
	set(t, h, 9, 0, 9)
	root(t, h, 7)
	h.Collect()
	wantAt(t, h, 1, 1)
	wantImage(t, h, 0, head(3, 1, 0), 3, head(2, 0, 2), 0, 44)
	wantNone(t, h, 2, 4, 5, 6, 7, 9)
}

func TestP3_5_HandlesGoFromTheLowest(t *testing.T) {
	h := made(t, 1000)
	for i := range 4 {
		lay(t, h, 11+i, 0, 0, uint64(1+i))
	}
	root(t, h, 0, 3, 4, 1, 2)
	h.Drop(3)     // the object at 4 is held no more,
	root(t, h, 2) // and handle 3 leads to the one at 2
	h.Collect()
	wantImage(t, h, 0, head(13, 0, 0), head(12, 0, 0), head(11, 0, 0))
	for handle, ref := range []uint64{0, 1, 2, 3, 2} {
		wantAt(t, h, handle+1, ref)
	}
}

func TestP3_5_FieldsGoInTheirOrderBreadthFirst(t *testing.T) {
	h := made(t, 1000)
	lay(t, h, 1, 3, 1, 1)  // to 12, nil, 6
	lay(t, h, 2, 1, 1, 6)  // to 9
	lay(t, h, 3, 1, 1, 9)  // to 1
	lay(t, h, 4, 2, 0, 12) // to 15, 9
	lay(t, h, 5, 0, 0, 15)
	set(t, h, 1, 0, 12)
	set(t, h, 1, 2, 6)
	set(t, h, 1, 3, 15) // a raw: it leads nowhere
	set(t, h, 6, 0, 9)
	set(t, h, 6, 1, slot0)
	set(t, h, 9, 0, 1)
	set(t, h, 9, 1, 1<<63-1)
	set(t, h, 12, 0, 15)
	set(t, h, 12, 1, 9)
	root(t, h, 1)
	h.Collect()
	wantImage(t, h, 0,
		head(1, 3, 1), 6, 0, 9, 15,
		head(4, 2, 0), 12, 13,
		head(2, 1, 1), 13, slot0,
		head(5, 0, 0),
		head(3, 1, 1), 1, 1<<63-1)
}

func TestP3_5_SharedObjectsAreCopiedOnce(t *testing.T) {
	h := made(t, 1000)
	lay(t, h, 9, 0, 9, 1)
	lay(t, h, 1, 2, 0, 11)
	lay(t, h, 2, 1, 0, 14)
	for _, c := range []struct {
		ref uint64
		i   int
		v   uint64
	}{{11, 0, 14}, {11, 1, 14}, {14, 0, 14}} {
		set(t, h, c.ref, c.i, c.v)
	}
	root(t, h, 14, 11, 14)
	h.Collect()
	wantImage(t, h, 0, head(2, 1, 0), 1, head(1, 2, 0), 1, 1)
	for handle, ref := range []uint64{1, 3, 1} {
		wantAt(t, h, handle+1, ref)
	}
	h.Collect()
	wantImage(t, h, 0, head(2, 1, 0), 1, head(1, 2, 0), 1, 1)
}

// TestP3_5_LargeOnesWaitInLine: a large object is looked at when no copied one is left, those that were reached first come first.
func TestP3_5_LargeOnesWaitInLine(t *testing.T) {
	h := made(t, 5000)
	for i := range 3 {
		held(t, h, 30+i, 2, 100, slot0+uint64(i))
	}
	lay(t, h, 9, 0, 5, 1) // garbage
	for i := range 6 {
		lay(t, h, 1+i, 1, 0, uint64(7+2*i)) // 7, 9, 11, 13, 15, 17
	}
	for _, c := range []struct {
		ref uint64
		i   int
		v   uint64
	}{
		{slot0, 0, 7}, {slot0, 1, slot0 + 2},
		{slot0 + 1, 0, 9}, {slot0 + 1, 1, slot0 + 1},
		{slot0 + 2, 0, 11}, {slot0 + 2, 1, slot0},
		{7, 0, 13}, {13, 0, slot0 + 1}, {9, 0, 15}, {11, 0, 17}, {17, 0, 7},
	} {
		set(t, h, c.ref, c.i, c.v)
	}
	for handle := range 3 {
		h.Drop(handle + 1)
	}
	root(t, h, slot0+2, slot0)
	h.Collect()
	// In line: slot 2, slot 0. Slot 2 leads to 11, that to 17, that to 7, that to 13, and that to slot 1, which stands behind slot 0.
	wantImage(t, h, 0,
		head(3, 1, 0), 3,
		head(6, 1, 0), 5,
		head(1, 1, 0), 7,
		head(4, 1, 0), slot0+1,
		head(2, 1, 0), 11,
		head(5, 1, 0), 0)
	for _, c := range []struct {
		ref uint64
		i   int
		v   uint64
	}{
		{slot0, 0, 5}, {slot0, 1, slot0 + 2},
		{slot0 + 1, 0, 9}, {slot0 + 1, 1, slot0 + 1},
		{slot0 + 2, 0, 1}, {slot0 + 2, 1, slot0},
	} {
		wantGet(t, h, c.ref, c.i, c.v)
	}
}

// TestP3_5_TheLineIsFirstInFirstOut: three large ones that each lead to a small one of their own.
func TestP3_5_TheLineIsFirstInFirstOut(t *testing.T) {
	h := made(t, 5000)
	for i := range 3 {
		held(t, h, 30, 1, 100, slot0+uint64(i))
	}
	for i := range 3 {
		lay(t, h, 1+i, 0, 0, uint64(1+i))
		set(t, h, slot0+uint64(i), 0, uint64(1+i))
	}
	h.Put(1, slot0+1)
	h.Put(2, slot0+2)
	h.Put(3, slot0)
	h.Collect()
	wantImage(t, h, 0, head(2, 0, 0), head(3, 0, 0), head(1, 0, 0))
}

func TestP3_5_LargeOnesStayWhereTheyAre(t *testing.T) {
	h := made(t, 5000)
	for i := range 4 {
		held(t, h, 50+i, 0, 80+i, slot0+uint64(i))
		set(t, h, slot0+uint64(i), 79, uint64(1000+i))
	}
	h.Drop(1)
	h.Drop(3)
	h.Collect()
	wantNone(t, h, slot0, slot0+2, slot0+4)
	wantShape(t, h, slot0+1, 51, 0, 81)
	wantShape(t, h, slot0+3, 53, 0, 83)
	wantGet(t, h, slot0+1, 79, 1001)
	wantGet(t, h, slot0+3, 79, 1003)
	if s := h.Stats(); s.Slots != 2 || s.Large != 83+85 {
		t.Errorf("%+v: want 2 slots of 168 words", s)
	}
	held(t, h, 60, 0, 64, slot0)
	held(t, h, 61, 0, 64, slot0+2)
	held(t, h, 62, 0, 64, slot0+4)
	wantGet(t, h, slot0, 0, 0)
}

func TestP3_5_ARingOfLargeOnesGoesTogether(t *testing.T) {
	h := made(t, 5000)
	held(t, h, 1, 100, 0, slot0)
	held(t, h, 1, 100, 0, slot0+1)
	set(t, h, slot0, 99, slot0+1)
	set(t, h, slot0+1, 0, slot0)
	set(t, h, slot0+1, 1, slot0+1)
	h.Drop(1)
	h.Collect()
	wantShape(t, h, slot0, 1, 100, 0)
	wantShape(t, h, slot0+1, 1, 100, 0)
	h.Drop(2)
	h.Collect()
	wantNone(t, h, slot0, slot0+1)
	wantStats(t, h, api.HeapStats{Limit: 5000, Half: 64, Used: 1, Collections: 4})
}

func TestP3_5_ObjectsAreCopiedWordForWord(t *testing.T) {
	h := made(t, 1000)
	lay(t, h, 9, 0, 0, 1)
	held(t, h, 255, 0, 61, 2)
	b := fill(t, h, 2, 8*61)
	h.Collect()
	wantShape(t, h, 1, 255, 0, 61)
	if got, e := h.Bytes(1, 0, len(b)); string(got) != string(b) || e != api.OK {
		t.Errorf("the copied object's bytes are %v, %d", got, e)
	}
}

// TestP3_5_ALongChainIsKept: a chain as long as the heap allows, through small and large objects.
func TestP3_5_ALongChainIsKept(t *testing.T) {
	h := made(t, api.MaxLimit)
	root(t, h, 0)
	const length = 5000
	for i := range length {
		raws := 1
		if i%50 == 0 {
			raws = 70
		}
		ref, e := h.Alloc(1, 1, raws)
		if e != api.OK {
			t.Fatalf("Alloc: %d", e)
		}
		before, _ := h.At(1)
		set(t, h, ref, 0, before)
		set(t, h, ref, 1, uint64(i))
		h.Put(1, ref)
	}
	h.Collect()
	ref, _ := h.At(1)
	for i := range length {
		wantGet(t, h, ref, 1, uint64(length-1-i))
		ref, _ = h.Get(ref, 0)
	}
	if s := h.Stats(); ref != 0 || s.Used != 1+3*(length-length/50) || s.Large != length/50*73 {
		t.Errorf("behind the chain: ref %#x, %+v", ref, s)
	}
}

func TestP3_10_CollectFitsTheHalf(t *testing.T) {
	h := made(t, 10000)
	if e := h.Resize(1000); e != api.OK {
		t.Fatalf("Resize: %d", e)
	}
	held(t, h, 1, 0, 60, 1) // Used 62
	held(t, h, 1, 0, 60, 62)
	lay(t, h, 1, 0, 60, 123)
	h.Collect() // Used 123: 8*123 is 984, below 1000
	wantStats(t, h, api.HeapStats{Limit: 10000, Half: 256, Used: 123, Roots: 2, Collections: 2, Resizes: 2, Moved: 122})
	h.Drop(2)
	h.Collect() // Used 62: 496 is not below 256
	wantStats(t, h, api.HeapStats{Limit: 10000, Half: 256, Used: 62, Roots: 1, Collections: 3, Resizes: 2, Moved: 61})
	if e := h.Resize(62); e != api.ErrHeapHalf {
		t.Errorf("Resize(62): %d", e)
	}
	if e := h.Resize(64); e != api.OK {
		t.Errorf("Resize(64): %d", e)
	}
	h.Collect() // 4*62 is above 3*64: want(62) is 128
	wantStats(t, h, api.HeapStats{Limit: 10000, Half: 128, Used: 62, Roots: 1, Collections: 5, Resizes: 4, Moved: 61})
	wantAt(t, h, 1, 1)
}

func TestP3_10_CollectOfAnEmptyHeap(t *testing.T) {
	h := made(t, 128)
	h.Collect()
	h.Collect()
	wantStats(t, h, api.HeapStats{Limit: 128, Half: 64, Used: 1, Collections: 2})
	wantImage(t, h, 0)
}

func TestP3_13_RefsStayTillTheNextCollection(t *testing.T) {
	h := made(t, 1000)
	lay(t, h, 1, 0, 1, 1)
	lay(t, h, 2, 0, 1, 3)
	lay(t, h, 3, 1, 1, 5)
	h.Root(3)
	h.Set(5, 0, 1)
	h.SetBytes(1, 0, []byte("x"))
	h.Put(1, 5)
	h.Drop(1)
	h.Root(5)
	h.Image()
	h.Stats()
	wantShape(t, h, 1, 1, 0, 1)
	wantShape(t, h, 3, 2, 0, 1)
	wantShape(t, h, 5, 3, 1, 1)
	h.Collect() // the handle's object lies at 1 now, what it led to at 4; nothing begins at 3 or 5
	wantShape(t, h, 1, 3, 1, 1)
	wantShape(t, h, 4, 1, 0, 1)
	wantNone(t, h, 3, 5)
	if e := h.Set(1, 0, 5); e != api.ErrHeapRef {
		t.Errorf("Set took a ref that is not right any more: %d", e)
	}
	if _, e := h.Root(3); e != api.ErrHeapRef {
		t.Errorf("Root took a ref that is not right any more: %d", e)
	}
	if e := h.Put(1, 3); e != api.ErrHeapRef {
		t.Errorf("Put took a ref that is not right any more: %d", e)
	}
}

func TestP3_13_TwoHeapsHaveNothingInCommon(t *testing.T) {
	a, b := mixed(t), made(t, 1000)
	wantNone(t, b, 1, 6, slot0, slot0+1)
	if _, e := b.At(1); e != api.ErrHeapHandle {
		t.Errorf("a handle of one heap is in use in the other: %d", e)
	}
	before := stateOf(a)
	held(t, b, 1, 1, 1, 1)
	set(t, b, 1, 1, 99)
	b.Collect()
	b.Drop(1)
	held(t, b, 1, 0, 500, slot0)
	wantState(t, a, before, "a call on another heap")
}
