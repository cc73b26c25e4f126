package blob_test

import (
	"strings"
	"testing"

	"larder/api"
	"larder/blob"
	"larder/word"
)

// over is what the bytes of a blob become by a Write, as the chapter's text has it.
func over(old string, at int, b string) string {
	if b == "" {
		return old
	}
	if at > len(old) {
		old += strings.Repeat("\x00", at-len(old))
	}
	end := at + len(b)
	if end > len(old) {
		return old[:at] + b
	}
	return old[:at] + b + old[end:]
}

func TestP4_4_InPlace(t *testing.T) {
	for _, c := range []struct {
		old string
		at  int
		b   string
	}{
		{"abcd", 2, "XYZ"}, {"abcd", 0, "X"}, {"abcd", 3, "X"}, {"abcd", 4, "X"}, {"abcd", 6, "X"}, {"abcd", 7, "X"},
		{"abcd", 0, "XXXXXXXX"}, {"abcd", 0, "\x00"}, {"a", 7, "\x00"}, {"a", 2, "XY"},
		{"abcdefgh", 0, "XXXXXXXX"}, {"abcdefgh", 7, "X"}, {"abcdefghi", 7, "XY"}, {"abcdefghi", 15, "X"}, {"abcdefghi", 0, "X"},
		{text(490), 495, "X"}, {text(497), 503, "X"}, {text(497), 3, text(490)}, {text(4089), 4095, "X"}, {text(4096), 0, text(4096)}, {text(4096), 4095, "X"},
	} {
		h := made(t, 8192)
		h.Resize(1000) // room for all of it: nothing is collected
		ref := laid(t, h, c.old)
		behind := laid(t, h, "\xff\xff")
		before := stateOf(h)
		if to, e := blob.Write(h, ref, c.at, []byte(c.b)); to != ref || e != api.OK {
			t.Errorf("Write(%d bytes, %d, %q) = %#x, %d, want %#x", len(c.old), c.at, c.b, to, e, ref)
		}
		wantRead(t, h, ref, over(c.old, c.at, c.b))
		wantObject(t, h, ref, over(c.old, c.at, c.b))
		wantObject(t, h, behind, "\xff\xff")
		before.image, before.blocks = h.Image(), stateOf(h).blocks
		wantState(t, h, before, "a Write in place")
	}
}

// TestP4_4_InPlaceOnAFullHeap: no room is needed, and none is asked for.
func TestP4_4_InPlaceOnAFullHeap(t *testing.T) {
	h := made(t, 128)
	ref := laid(t, h, text(481)) // 2 + 61 words
	before := h.Stats()
	if before.Used != before.Half {
		t.Errorf("the half is not full: %+v", before)
	}
	if to, e := blob.Write(h, ref, 482, []byte("abcdef")); to != ref || e != api.OK {
		t.Errorf("Write = %#x, %d, want %#x", to, e, ref)
	}
	wantRead(t, h, ref, text(481)+"\x00abcdef")
	if got := h.Stats(); got != before {
		t.Errorf("Stats %+v, before %+v", got, before)
	}
}

func TestP4_4_ANewBlob(t *testing.T) {
	for _, c := range []struct {
		old string
		at  int
		b   string
	}{
		{"", 0, "a"}, {"", 0, "\x00"}, {"", 7, "a"}, {"", 8, "a"}, {"", 4095, "a"}, {"", 0, text(4096)},
		{"abcd", 4, "XYZuv"}, {"abcd", 8, "X"}, {"abcd", 10, "Q"}, {"abcd", 0, "123456789"}, {"abcdefgh", 8, "X"}, {"abcdefgh", 4, "12345"}, {"abcdefgh", 8, "\x00"}, {"abcdefgh", 100, "X"},
		{text(488), 489, "12345678"}, {text(496), 496, "X"}, {text(497), 504, "X"}, {text(600), 300, text(400)}, {text(600), 4090, "abcdef"}, {text(4088), 4088, "X"}, {text(10), 4000, text(96)},
	} {
		h := made(t, 8192)
		handle := root(t, h, laid(t, h, c.old))
		to, e := blob.Write(h, at(t, h, handle), c.at, []byte(c.b))
		if e != api.OK {
			t.Errorf("Write(%d bytes, %d, %d bytes): %d", len(c.old), c.at, len(c.b), e)
			continue
		}
		if ref := at(t, h, handle); to == ref {
			t.Errorf("Write(%d bytes, %d, %d bytes): the same ref, though the old blob is held", len(c.old), c.at, len(c.b))
		}
		wantRead(t, h, at(t, h, handle), c.old)
		wantObject(t, h, at(t, h, handle), c.old)
		wantRead(t, h, to, over(c.old, c.at, c.b))
		wantObject(t, h, to, over(c.old, c.at, c.b))
		if got := h.Stats().Roots; got != 1 {
			t.Errorf("%d handles are in use, want 1", got)
		}
	}
}

// TestP4_4_TheWordCountsTell: every place of a short blob, with every length, against the rule.
func TestP4_4_TheWordCountsTell(t *testing.T) {
	for old := range 20 {
		for place := range 26 {
			for n := range 20 {
				h := made(t, 1024) // room for both: nothing is collected
				ref := laid(t, h, text(old))
				used := h.Stats().Used
				to, e := blob.Write(h, ref, place, []byte(text(n)))
				want := over(text(old), place, text(n))
				isNew, words := word.Words(len(want)) != word.Words(old), 0
				if isNew {
					words = 2 + word.Words(len(want))
				}
				if e != api.OK || isNew == (to == ref) || h.Stats().Used != used+words {
					t.Errorf("Write(%d bytes, %d, %d bytes) = %#x (of %#x), %d; %d words more", old, place, n, to, ref, e, h.Stats().Used-used)
				}
				wantRead(t, h, to, want)
				wantObject(t, h, to, want)
			}
		}
	}
}

func TestP4_4_NothingToWrite(t *testing.T) {
	h := made(t, 8192)
	for _, old := range []string{"", "abc", "abcdefgh", text(600), text(4096)} {
		ref := laid(t, h, old)
		before := stateOf(h)
		for _, place := range []int{0, 1, 3, 8, 99, 4095, 4096} {
			for _, b := range [][]byte{nil, {}} {
				if to, e := blob.Write(h, ref, place, b); to != ref || e != api.OK {
					t.Errorf("Write(%d bytes, %d, nothing) = %#x, %d, want %#x", len(old), place, to, e, ref)
				}
			}
		}
		wantRead(t, h, ref, old)
		wantState(t, h, before, "a Write of nothing")
	}
}

func TestP4_4_WrongPlaces(t *testing.T) {
	h := made(t, 8192)
	for _, old := range []string{"", "abcdefghijk", text(600), text(4096)} {
		ref := laid(t, h, old)
		before := stateOf(h)
		for _, c := range []struct {
			at, n int
			want  api.Errno
		}{
			{-1, 0, api.ErrBlobSpan}, {-1, 1, api.ErrBlobSpan}, {4097, 0, api.ErrBlobSpan}, {4097, 1, api.ErrBlobSpan}, {least, 0, api.ErrBlobSpan}, {least, 1, api.ErrBlobSpan}, {most, 0, api.ErrBlobSpan}, {most, 1, api.ErrBlobSpan}, {-8, 8, api.ErrBlobSpan},
			{-1, 5000, api.ErrBlobSpan}, {4097, 5000, api.ErrBlobSpan}, // ahead of ErrBlobLong
			{4096, 1, api.ErrBlobLong}, {4095, 2, api.ErrBlobLong}, {0, 4097, api.ErrBlobLong}, {1, 4096, api.ErrBlobLong}, {4096, 4096, api.ErrBlobLong}, {0, 1 << 20, api.ErrBlobLong},
		} {
			if to, e := blob.Write(h, ref, c.at, make([]byte, c.n)); to != 0 || e != c.want {
				t.Errorf("Write(%d bytes, %d, %d bytes) = %#x, %d, want %d", len(old), c.at, c.n, to, e, c.want)
			}
		}
		wantState(t, h, before, "a refused Write")
	}
}

func TestP4_4_NoRoom(t *testing.T) {
	h := made(t, 128)
	handle := root(t, h, laid(t, h, "abcd")) // 3 words: Used 4; 60 are left
	for _, c := range []struct {
		at   int
		want api.Errno
	}{{464, api.ErrHeapFull}, {480, api.ErrHeapFull}, {600, api.ErrHeapFull}, {4095, api.ErrHeapFull}, {4096, api.ErrBlobLong}, {4097, api.ErrBlobSpan}} {
		if to, e := blob.Write(h, at(t, h, handle), c.at, []byte("y")); to != 0 || e != c.want {
			t.Errorf("Write at %d = %#x, %d, want %d", c.at, to, e, c.want)
		}
		wantRead(t, h, at(t, h, handle), "abcd")
		if got := h.Stats().Roots; got != 1 {
			t.Errorf("behind a refused Write %d handles are in use, want 1", got)
		}
	}
	to, e := blob.Write(h, at(t, h, handle), 463, []byte("y")) // 58 + 2 words
	if e != api.OK {
		t.Fatalf("Write at 463: %d", e)
	}
	wantRead(t, h, to, over("abcd", 463, "y"))
	wantRead(t, h, at(t, h, handle), "abcd")
}

// TestP4_4_TheOldBlobCountsAsLive: a blob that nobody else holds is held while the new one is laid.
func TestP4_4_TheOldBlobCountsAsLive(t *testing.T) {
	h := made(t, 128)
	ref := laid(t, h, "abcd")
	if to, e := blob.Write(h, ref, 464, []byte("y")); to != 0 || e != api.ErrHeapFull { // 4 + 61 are above 64; without the old one it were 62
		t.Errorf("Write = %#x, %d, want ErrHeapFull", to, e)
	}
	h = made(t, 128)
	laid(t, h, text(400)) // garbage: a collection comes
	ref = laid(t, h, "abcd")
	to, e := blob.Write(h, ref, 463, []byte("y"))
	if e != api.OK {
		t.Fatalf("Write: %d", e)
	}
	wantRead(t, h, to, over("abcd", 463, "y"))
	wantRead(t, h, 1, "abcd") // where the collection has laid it
	if s := h.Stats(); s.Collections != 1 || s.Roots != 0 || s.Used != 64 {
		t.Errorf("%+v", s)
	}
}
