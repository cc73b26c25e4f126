package blob_test

import (
	"bytes"
	"testing"

	"larder/api"
	"larder/blob"
)

// spoil writes over a list and its spare room.
func spoil(l []byte) {
	l = l[:cap(l)]
	for i := range l {
		l[i] = 0xee
	}
}

func TestP4_8_AnswersAreNewMemory(t *testing.T) {
	h := made(t, 8192)
	for _, n := range []int{0, 1, 8, 11, 600, 4096} {
		ref := laid(t, h, text(n))
		first, _ := blob.Read(h, ref)
		second, _ := blob.Read(h, ref)
		part, _ := blob.Slice(h, ref, n/3, n/2)
		spoil(second)
		if string(first) != text(n) || string(part) != text(n)[n/3:n/3+n/2] {
			t.Errorf("%d bytes: one answer was changed through another", n)
		}
		spoil(part)
		wantObject(t, h, ref, text(n))
		if n == 0 {
			continue
		}
		if _, e := blob.Write(h, ref, 0, []byte("!")); e != api.OK {
			t.Fatalf("Write: %d", e)
		}
		if string(first) != text(n) {
			t.Errorf("%d bytes: an answer changed with the blob", n)
		}
	}
}

func TestP4_8_ArgumentsStayAndAreNotKept(t *testing.T) {
	h := made(t, 8192)
	room := []byte("abcdefghijklmnop")
	kept := bytes.Clone(room)
	parts := [][]byte{room[:5], room[5:9], nil, room[:3]}
	list := parts[:3]
	ref, e := blob.New(h, list...)
	if e != api.OK {
		t.Fatalf("New: %d", e)
	}
	blob.Compare(h, ref, room[:4])
	to, e := blob.Write(h, ref, 3, room[:4])
	if to != ref || e != api.OK {
		t.Fatalf("Write: %#x, %d", to, e)
	}
	longer, e := blob.Write(h, ref, 20, room[:4])
	if e != api.OK {
		t.Fatalf("Write: %d", e)
	}
	if !bytes.Equal(room, kept) {
		t.Errorf("an argument or the room behind it was changed: %q", room)
	}
	if len(parts[0]) != 5 || len(parts[1]) != 4 || parts[2] != nil || string(parts[3]) != "abc" {
		t.Error("the list of parts was changed")
	}
	spoil(room)
	wantRead(t, h, ref, "abcabcdhi")
	wantRead(t, h, longer, "abcabcdhi\x00\x00\x00\x00\x00\x00\x00\x00\x00\x00\x00abcd")
}

// TestP4_8_ABlobOfItself: what was read is handed in again.
func TestP4_8_ABlobOfItself(t *testing.T) {
	h := made(t, 8192)
	ref := laid(t, h, "abcdefgh")
	b, _ := blob.Read(h, ref)
	if to, e := blob.Write(h, ref, 0, b[2:]); to != ref || e != api.OK {
		t.Fatalf("Write: %#x, %d", to, e)
	}
	wantRead(t, h, ref, "cdefghgh")
	twice, e := blob.New(h, b, b)
	if e != api.OK {
		t.Fatalf("New: %d", e)
	}
	wantRead(t, h, twice, "abcdefghabcdefgh")
}
