package heap_test

import (
	"bytes"
	"testing"

	"larder/api"
	"larder/heap"
)

// mixed makes a heap with two small objects (refs 1 and 6) and two large ones (slots 0 and 1), each of them held.
func mixed(t *testing.T) *heap.Heap {
	t.Helper()
	h := made(t, 5000)
	held(t, h, 40, 2, 100, slot0)
	held(t, h, 41, 100, 1, slot0+1)
	held(t, h, 5, 2, 2, 1)
	held(t, h, 6, 0, 1, 6)
	return h
}

// nowhere: numbers at which no object of mixed begins.
var nowhere = []uint64{0, 2, 3, 5, 7, 8, 9, 63, 64, 99, 1 << 20, 1 << 32, 1 << 62, 1<<63 - 1, slot0 + 2, slot0 + 1<<20, 1<<64 - 1}

func TestP3_2_ObjectTellsTheShape(t *testing.T) {
	h := mixed(t)
	wantShape(t, h, 1, 5, 2, 2)
	wantShape(t, h, 6, 6, 0, 1)
	wantShape(t, h, slot0, 40, 2, 100)
	wantShape(t, h, slot0+1, 41, 100, 1)
	wantNone(t, h, nowhere...)
}

func TestP3_2_FieldsAreSetAndTold(t *testing.T) {
	h := mixed(t)
	for _, ref := range []uint64{1, slot0} {
		for i := range 4 {
			wantGet(t, h, ref, i, 0)
		}
		set(t, h, ref, 0, 6)
		set(t, h, ref, 1, slot0+1)
		set(t, h, ref, 2, 12345)
		set(t, h, ref, 3, 1<<64-1)
		for i, want := range []uint64{6, slot0 + 1, 12345, 1<<64 - 1} {
			wantGet(t, h, ref, i, want)
		}
		set(t, h, ref, 0, 0)
		set(t, h, ref, 1, ref)
		wantGet(t, h, ref, 0, 0)
		wantGet(t, h, ref, 1, ref)
	}
	wantImage(t, h, 0, head(5, 2, 2), 0, 1, 12345, 1<<64-1, head(6, 0, 1), 0)
}

func TestP3_2_OneObjectsFieldsAreNoOthers(t *testing.T) {
	h := mixed(t)
	set(t, h, slot0, 101, 7)
	set(t, h, slot0+1, 100, 8)
	set(t, h, 1, 3, 9)
	set(t, h, 6, 0, 10)
	wantGet(t, h, slot0, 101, 7)
	wantGet(t, h, slot0, 100, 0)
	wantGet(t, h, slot0+1, 100, 8)
	wantGet(t, h, 1, 3, 9)
	wantGet(t, h, 6, 0, 10)
}

func TestP3_2_NoObjectBeginsThere(t *testing.T) {
	h := mixed(t)
	before := stateOf(h)
	for _, ref := range nowhere {
		for _, i := range []int{0, -1, most} { // ErrHeapRef comes ahead of ErrHeapField
			if v, e := h.Get(ref, i); v != 0 || e != api.ErrHeapRef {
				t.Errorf("Get(%#x, %d) = %d, %d, want ErrHeapRef", ref, i, v, e)
			}
			if e := h.Set(ref, i, 0); e != api.ErrHeapRef {
				t.Errorf("Set(%#x, %d, 0) = %d, want ErrHeapRef", ref, i, e)
			}
		}
	}
	wantState(t, h, before, "a refused call")
}

func TestP3_2_NoSuchField(t *testing.T) {
	h := mixed(t)
	before := stateOf(h)
	for ref, fields := range map[uint64]int{1: 4, 6: 1, slot0: 102, slot0 + 1: 101} {
		wantGet(t, h, ref, fields-1, 0)
		for _, i := range []int{-1, -2, fields, fields + 1, least, most} {
			if v, e := h.Get(ref, i); v != 0 || e != api.ErrHeapField {
				t.Errorf("Get(%#x, %d) = %d, %d, want ErrHeapField", ref, i, v, e)
			}
			for _, v := range []uint64{0, 1, 2} { // ahead of what v is
				if e := h.Set(ref, i, v); e != api.ErrHeapField {
					t.Errorf("Set(%#x, %d, %d) = %d, want ErrHeapField", ref, i, v, e)
				}
			}
		}
	}
	wantState(t, h, before, "a refused call")
}

func TestP3_2_ARefFieldTakesRefsAlone(t *testing.T) {
	h := mixed(t)
	for _, ref := range []uint64{1, slot0} {
		set(t, h, ref, 1, 6)
		for _, v := range nowhere[1:] {
			for i := range 2 {
				if e := h.Set(ref, i, v); e != api.ErrHeapRef {
					t.Errorf("Set(%#x, %d, %#x) = %d, want ErrHeapRef", ref, i, v, e)
				}
			}
			set(t, h, ref, 2, v)
			wantGet(t, h, ref, 2, v)
		}
		wantGet(t, h, ref, 0, 0)
		wantGet(t, h, ref, 1, 6)
	}
	if e := h.Set(slot0+1, 99, 2); e != api.ErrHeapRef {
		t.Errorf("the last ref field took 2: %d", e)
	}
	set(t, h, slot0+1, 99, 1)
	set(t, h, slot0+1, 100, 2)
}

// fill lays the bytes 0, 1, 2 .. into an object's raws.
func fill(t *testing.T, h *heap.Heap, ref uint64, n int) []byte {
	t.Helper()
	b := make([]byte, n)
	for i := range b {
		b[i] = byte(i)
	}
	if e := h.SetBytes(ref, 0, b); e != api.OK {
		t.Fatalf("SetBytes(%#x, 0, %d bytes): %d", ref, n, e)
	}
	return b
}

func TestP3_3_BytesAreTheRawsInOrder(t *testing.T) {
	h := mixed(t)
	for _, ref := range []uint64{1, slot0} {
		if e := h.SetBytes(ref, 6, []byte("ABC")); e != api.OK {
			t.Errorf("SetBytes(%#x): %d", ref, e)
		}
		wantGet(t, h, ref, 0, 0)
		wantGet(t, h, ref, 1, 0)
		wantGet(t, h, ref, 2, 0x4241<<48)
		wantGet(t, h, ref, 3, 0x43)
		if b, e := h.Bytes(ref, 5, 5); string(b) != "\x00ABC\x00" || e != api.OK {
			t.Errorf("Bytes(%#x, 5, 5) = %q, %d", ref, b, e)
		}
	}
}

func TestP3_3_BytesOfEverySpan(t *testing.T) {
	h := mixed(t)
	for ref, n := range map[uint64]int{1: 16, slot0: 800} {
		all := fill(t, h, ref, n)
		for _, from := range []int{0, 1, 7, 8, 9, n - 9, n - 1, n} {
			for _, length := range []int{0, 1, 7, 8, 9, n - from} {
				if from+length > n {
					continue
				}
				if b, e := h.Bytes(ref, from, length); !bytes.Equal(b, all[from:from+length]) || e != api.OK {
					t.Errorf("Bytes(%#x, %d, %d) = %v, %d", ref, from, length, b, e)
				}
			}
		}
	}
}

func TestP3_3_SetBytesLeavesTheOthers(t *testing.T) {
	h := mixed(t)
	for ref, n := range map[uint64]int{1: 16, slot0: 800} {
		all := fill(t, h, ref, n)
		for _, c := range []struct {
			from int
			b    string
		}{{0, ""}, {3, "x"}, {6, "four"}, {7, "ninebytes"}, {n - 1, "e"}, {n, ""}, {0, "eightbyt"}} {
			if e := h.SetBytes(ref, c.from, []byte(c.b)); e != api.OK {
				t.Errorf("SetBytes(%#x, %d, %q): %d", ref, c.from, c.b, e)
			}
			copy(all[c.from:], c.b)
			if b, e := h.Bytes(ref, 0, n); !bytes.Equal(b, all) || e != api.OK {
				t.Errorf("behind SetBytes(%#x, %d, %q): %v, %d", ref, c.from, c.b, b, e)
			}
		}
		if e := h.SetBytes(ref, 0, nil); e != api.OK {
			t.Errorf("SetBytes(%#x, 0, nil): %d", ref, e)
		}
	}
}

func TestP3_3_WrongSpans(t *testing.T) {
	h := mixed(t)
	for ref, n := range map[uint64]int{1: 16, 6: 8, slot0: 800, slot0 + 1: 8} {
		all := fill(t, h, ref, n)
		for _, c := range []struct{ from, n int }{{-1, 0}, {-1, 1}, {0, -1}, {0, n + 1}, {n, 1}, {n + 1, 0}, {n + 1, -1}, {1, most}, {most, 1}, {most, most}, {least, least}, {least, most}, {0, least}} {
			if b, e := h.Bytes(ref, c.from, c.n); len(b) != 0 || e != api.ErrHeapField {
				t.Errorf("Bytes(%#x, %d, %d) = %v, %d, want ErrHeapField", ref, c.from, c.n, b, e)
			}
		}
		for _, c := range []struct{ from, n int }{{-1, 0}, {-1, 3}, {n, 1}, {n - 1, 2}, {n + 1, 0}, {most, 1}, {least, 1}, {0, n + 1}} {
			if e := h.SetBytes(ref, c.from, make([]byte, c.n)); e != api.ErrHeapField {
				t.Errorf("SetBytes(%#x, %d, %d bytes) = %d, want ErrHeapField", ref, c.from, c.n, e)
			}
		}
		if b, _ := h.Bytes(ref, 0, n); !bytes.Equal(b, all) {
			t.Errorf("a refused SetBytes changed the bytes of %#x", ref)
		}
	}
}

func TestP3_3_NoObjectBeginsThere(t *testing.T) {
	h := mixed(t)
	for _, ref := range nowhere {
		for _, from := range []int{0, -1} { // ErrHeapRef comes ahead of ErrHeapField
			if b, e := h.Bytes(ref, from, 0); len(b) != 0 || e != api.ErrHeapRef {
				t.Errorf("Bytes(%#x, %d, 0) = %v, %d, want ErrHeapRef", ref, from, b, e)
			}
			if e := h.SetBytes(ref, from, []byte{1}); e != api.ErrHeapRef {
				t.Errorf("SetBytes(%#x, %d, [1]) = %d, want ErrHeapRef", ref, from, e)
			}
		}
	}
}

func TestP3_3_AnObjectWithoutRawsHasNoBytes(t *testing.T) {
	h := made(t, 1000)
	held(t, h, 1, 70, 0, slot0)
	lay(t, h, 1, 3, 0, 1)
	for _, ref := range []uint64{1, slot0} {
		if b, e := h.Bytes(ref, 0, 0); len(b) != 0 || e != api.OK {
			t.Errorf("Bytes(%#x, 0, 0) = %v, %d", ref, b, e)
		}
		if _, e := h.Bytes(ref, 0, 1); e != api.ErrHeapField {
			t.Errorf("Bytes(%#x, 0, 1): %d, want ErrHeapField", ref, e)
		}
		if e := h.SetBytes(ref, 0, []byte{1}); e != api.ErrHeapField {
			t.Errorf("SetBytes(%#x, 0, [1]): %d, want ErrHeapField", ref, e)
		}
	}
}
