package heap_test

import (
	"math/rand"
	"testing"

	"larder/api"
)

func TestP3_4_RootTakesTheLowestFreeHandle(t *testing.T) {
	h := mixed(t) // handles 1 to 4
	for i, ref := range []uint64{0, 6, slot0 + 1, 6} {
		if n, e := h.Root(ref); n != 5+i || e != api.OK {
			t.Errorf("Root(%#x) = %d, %d, want %d", ref, n, e, 5+i)
		}
		wantAt(t, h, 5+i, ref)
	}
	for _, n := range []int{7, 2, 5, 8} {
		if e := h.Drop(n); e != api.OK {
			t.Errorf("Drop(%d): %d", n, e)
		}
	}
	for _, want := range []int{2, 5, 7, 8, 9} {
		if n, e := h.Root(1); n != want || e != api.OK {
			t.Errorf("Root(1) = %d, %d, want %d", n, e, want)
		}
	}
	if got := h.Stats().Roots; got != 9 {
		t.Errorf("Roots is %d, want 9", got)
	}
}

func TestP3_4_RootRefusesWhatIsNoRef(t *testing.T) {
	h := mixed(t)
	before := stateOf(h)
	for _, ref := range nowhere[1:] {
		if n, e := h.Root(ref); n != 0 || e != api.ErrHeapRef {
			t.Errorf("Root(%#x) = %d, %d, want ErrHeapRef", ref, n, e)
		}
		if e := h.Put(1, ref); e != api.ErrHeapRef {
			t.Errorf("Put(1, %#x) = %d, want ErrHeapRef", ref, e)
		}
	}
	wantState(t, h, before, "a refused call")
}

func TestP3_4_HandlesThatAreNotInUse(t *testing.T) {
	h := mixed(t)
	h.Root(0)
	h.Drop(2)
	h.Drop(5)
	before := stateOf(h)
	for _, n := range []int{0, -1, 2, 5, 6, 1 << 40, least, least + 1, most} {
		if ref, e := h.At(n); ref != 0 || e != api.ErrHeapHandle {
			t.Errorf("At(%d) = %d, %d, want ErrHeapHandle", n, ref, e)
		}
		for _, ref := range []uint64{0, 1, 2} { // ErrHeapHandle comes ahead of ErrHeapRef
			if e := h.Put(n, ref); e != api.ErrHeapHandle {
				t.Errorf("Put(%d, %d) = %d, want ErrHeapHandle", n, ref, e)
			}
		}
		if e := h.Drop(n); e != api.ErrHeapHandle {
			t.Errorf("Drop(%d) = %d, want ErrHeapHandle", n, e)
		}
	}
	wantState(t, h, before, "a refused call")
}

func TestP3_4_PutLetsTheHandleLeadElsewhere(t *testing.T) {
	h := mixed(t)
	for _, ref := range []uint64{6, 0, slot0 + 1, 1} {
		if e := h.Put(2, ref); e != api.OK {
			t.Errorf("Put(2, %#x): %d", ref, e)
		}
		wantAt(t, h, 2, ref)
		wantAt(t, h, 1, slot0)
		wantAt(t, h, 3, 1)
	}
	h.Put(3, 0)
	h.Collect() // slot 1 and the object at 1 are held no more but by handle 2
	wantAt(t, h, 2, 1)
	wantShape(t, h, 1, 5, 2, 2)
	wantNone(t, h, slot0+1)
}

func TestP3_4_AHandleOfNothingIsInUse(t *testing.T) {
	h := made(t, 200)
	if n, e := h.Root(0); n != 1 || e != api.OK {
		t.Errorf("Root(0) = %d, %d", n, e)
	}
	h.Collect()
	wantAt(t, h, 1, 0)
	if n, _ := h.Root(0); n != 2 {
		t.Errorf("Root(0) = %d, want 2", n)
	}
}

// TestP3_4_DrawnHandles holds the handles against a plain list of those in use.
func TestP3_4_DrawnHandles(t *testing.T) {
	r := rand.New(rand.NewSource(34))
	for round := range 20 {
		h := made(t, 200)
		lay(t, h, 1, 0, 0, 1)
		inUse := []bool{}
		for range 500 {
			// The early rounds drop as much as they root, the late ones root more.
			if n := 1 + r.Intn(len(inUse)+1); r.Intn(20) > round/2+8 {
				want := api.ErrHeapHandle
				if n <= len(inUse) && inUse[n-1] {
					want, inUse[n-1] = api.OK, false
				}
				if e := h.Drop(n); e != want {
					t.Fatalf("Drop(%d) = %d, want %d", n, e, want)
				}
				continue
			}
			lowest := 0
			for lowest < len(inUse) && inUse[lowest] {
				lowest++
			}
			if lowest == len(inUse) {
				inUse = append(inUse, false)
			}
			inUse[lowest] = true
			if n, e := h.Root(1); n != lowest+1 || e != api.OK {
				t.Fatalf("Root(1) = %d, %d, want %d", n, e, lowest+1)
			}
		}
		count := 0
		for i, used := range inUse {
			ref, e := h.At(i + 1)
			if used != (e == api.OK) || used != (ref == 1) {
				t.Fatalf("At(%d) = %d, %d, in use: %v", i+1, ref, e, used)
			}
			if used {
				count++
			}
		}
		if got := h.Stats().Roots; got != count {
			t.Errorf("Roots is %d, want %d", got, count)
		}
	}
}
