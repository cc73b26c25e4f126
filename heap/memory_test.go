package heap_test

import (
	"bytes"
	"slices"
	"testing"

	"larder/api"
)

// spoil writes over a list and its spare room.
func spoil[T byte | uint64](l []T) {
	l = l[:cap(l)]
	for i := range l {
		l[i] = 0xee
	}
}

func TestP3_3_BytesAreNewMemory(t *testing.T) {
	h := mixed(t)
	for ref, n := range map[uint64]int{1: 16, slot0: 800} {
		all := fill(t, h, ref, n)
		for _, c := range []struct{ from, n int }{{0, n}, {3, 5}, {3, 9}, {8, 8}, {5, 0}, {n, 0}} {
			first, _ := h.Bytes(ref, c.from, c.n)
			second, _ := h.Bytes(ref, c.from, c.n)
			spoil(second)
			if !bytes.Equal(first, all[c.from:c.from+c.n]) {
				t.Errorf("Bytes(%#x, %d, %d): one answer was changed through another", ref, c.from, c.n)
			}
			if b, _ := h.Bytes(ref, 0, n); !bytes.Equal(b, all) {
				t.Errorf("Bytes(%#x, %d, %d): the object was changed through the answer", ref, c.from, c.n)
			}
		}
	}
}

func TestP3_3_SetBytesKeepsNothing(t *testing.T) {
	h := mixed(t)
	for _, ref := range []uint64{1, slot0} {
		room := []byte("abcdefghijklmnop")
		if e := h.SetBytes(ref, 2, room[:11]); e != api.OK {
			t.Fatalf("SetBytes(%#x): %d", ref, e)
		}
		if string(room) != "abcdefghijklmnop" {
			t.Errorf("SetBytes changed its argument or the room behind it: %q", room)
		}
		spoil(room)
		if b, _ := h.Bytes(ref, 0, 15); string(b) != "\x00\x00abcdefghijk\x00\x00" {
			t.Errorf("SetBytes(%#x) kept its argument: %q", ref, b)
		}
	}
}

func TestP3_12_ImageIsNewMemory(t *testing.T) {
	h := mixed(t)
	kept := slices.Clone(h.Image())
	image := h.Image()
	spoil(h.Image())
	wantImage(t, h, kept...)
	set(t, h, 1, 2, 99)
	h.Collect()
	if !slices.Equal(image, kept) {
		t.Error("an image changed with its heap, or with another image")
	}
}
