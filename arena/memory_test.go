package arena_test

import (
	"bytes"
	"slices"
	"testing"

	"larder/api"
)

// spoil writes over a list and its spare room.
func spoil[T byte | uint64](l []T) {
	l = l[:cap(l)]
	for i := range l {
		l[i] = 0xee
	}
}

func TestP2_5_BlocksShareNothing(t *testing.T) {
	a, b := pair(t), block(t, 20)
	a.Set(1, 1, 6)
	take(t, b, a, 1, 1)
	keptA, keptB := a.Image(), b.Image()
	b.Set(1, 1, 7)
	b.SetBytes(1, 8, []byte("xyz"))
	lay(t, b, 1, 0, 3, 5)
	wantImage(t, a, keptA...)
	if slices.Equal(b.Image(), keptB) {
		t.Error("the copy did not change")
	}
	keptB = b.Image()
	a.Set(5, 0, 8)
	a.Clear()
	lay(t, a, 1, 0, 6, 1)
	a.SetBytes(1, 0, bytes.Repeat([]byte{9}, 48))
	wantImage(t, b, keptB...)
}

func TestP2_5_AnswersAreNewMemory(t *testing.T) {
	a := block(t, 50)
	lay(t, a, 1, 1, 3, 1)
	lay(t, a, 2, 0, 2, 6)
	a.SetBytes(1, 0, []byte("abcdefghijklmnopqrstuvwx"))
	kept := slices.Clone(a.Image())
	for _, c := range []struct{ from, n int }{{0, 24}, {3, 5}, {3, 9}, {8, 8}, {5, 0}, {24, 0}} {
		first, _ := a.Bytes(1, c.from, c.n)
		want := slices.Clone(first)
		second, _ := a.Bytes(1, c.from, c.n)
		spoil(second)
		if !bytes.Equal(first, want) {
			t.Errorf("Bytes(1, %d, %d): one answer was changed through another", c.from, c.n)
		}
		wantBytes(t, a, 1, c.from, c.n, want)
	}
	spoil(a.Image())
	wantImage(t, a, kept...)
	image := a.Image()
	a.Set(1, 0, 99)
	if !slices.Equal(image, kept) {
		t.Error("an image changed with its block")
	}
}

func TestP2_5_ArgumentsStayAndAreNotKept(t *testing.T) {
	a := block(t, 50)
	lay(t, a, 1, 0, 3, 1)
	room := []byte("abcdefghijklmnop")
	if e := a.SetBytes(1, 2, room[:11]); e != api.OK {
		t.Fatalf("SetBytes: %d", e)
	}
	if string(room) != "abcdefghijklmnop" {
		t.Errorf("SetBytes changed its argument or the room behind it: %q", room)
	}
	spoil(room)
	wantBytes(t, a, 1, 0, 15, []byte("\x00\x00abcdefghijk\x00\x00"))
}
