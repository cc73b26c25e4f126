package blob_test

import (
	"bytes"
	"slices"
	"strings"
	"testing"

	"larder/api"
	"larder/blob"
	"larder/heap"
	"larder/word"
)

const (
	least, most = -1 << 63, 1<<63 - 1
	slot0       = uint64(1) << 63 // the ref of the object in slot 0
)

// edges are the lengths at which a blob takes another word, becomes a large object, and is as long as it may be.
var edges = []int{0, 1, 7, 8, 9, 15, 16, 17, 495, 496, 497, 504, 505, 4087, 4088, 4089, 4095, 4096}

func made(t *testing.T, limit int) *heap.Heap {
	t.Helper()
	h, e := heap.New(limit)
	if e != api.OK || h == nil {
		t.Fatalf("heap.New(%d): %d", limit, e)
	}
	return h
}

// laid makes a blob that must not be refused.
func laid(t *testing.T, h *heap.Heap, parts ...string) uint64 {
	t.Helper()
	list := make([][]byte, len(parts))
	for i, part := range parts {
		list[i] = []byte(part)
	}
	ref, e := blob.New(h, list...)
	if e != api.OK {
		t.Fatalf("New of %d parts: %d", len(parts), e)
	}
	return ref
}

func root(t *testing.T, h *heap.Heap, ref uint64) int {
	t.Helper()
	handle, e := h.Root(ref)
	if e != api.OK {
		t.Fatalf("Root(%#x): %d", ref, e)
	}
	return handle
}

func at(t *testing.T, h *heap.Heap, handle int) uint64 {
	t.Helper()
	ref, e := h.At(handle)
	if e != api.OK {
		t.Fatalf("At(%d): %d", handle, e)
	}
	return ref
}

// text is n bytes of which no eight in a row come again soon, none of them 0.
func text(n int) string {
	b := make([]byte, n)
	for i := range b {
		b[i] = byte(1 + i%251)
	}
	return string(b)
}

func wantRead(t *testing.T, h *heap.Heap, ref uint64, want string) {
	t.Helper()
	if b, e := blob.Read(h, ref); string(b) != want || e != api.OK {
		t.Errorf("Read(%#x) = %q, %d, want %q", ref, b, e, want)
	}
	if n, e := blob.Len(h, ref); n != len(want) || e != api.OK {
		t.Errorf("Len(%#x) = %d, %d, want %d", ref, n, e, len(want))
	}
}

// wantObject holds what lies at a ref against the chapter's lay-out of a blob, word by word.
func wantObject(t *testing.T, h *heap.Heap, ref uint64, want string) {
	t.Helper()
	fields := append([]uint64{uint64(len(want))}, word.Pack([]byte(want))...)
	if kind, refs, raws, e := h.Object(ref); kind != api.KindBlob || refs != 0 || raws != len(fields) || e != api.OK {
		t.Errorf("a blob of %d bytes: Object = %d, %d, %d, %d, want %d raws", len(want), kind, refs, raws, e, len(fields))
		return
	}
	for i, v := range fields {
		if got, e := h.Get(ref, i); got != v || e != api.OK {
			t.Errorf("a blob of %d bytes: raw word %d is %#x, %d, want %#x", len(want), i, got, e, v)
		}
	}
}

// state is all that a heap tells of itself without being changed.
type state struct {
	stats   api.HeapStats
	image   []uint64
	handles []uint64
	blocks  [][]byte
}

func stateOf(h *heap.Heap) state {
	s := state{stats: h.Stats(), image: h.Image()}
	for n := 1; n <= s.stats.Roots+1; n++ {
		ref, _ := h.At(n)
		s.handles = append(s.handles, ref)
	}
	for slot := range s.stats.Slots + 1 {
		ref := slot0 + uint64(slot)
		_, _, raws, _ := h.Object(ref)
		b, _ := h.Bytes(ref, 0, 8*raws)
		s.blocks = append(s.blocks, b)
	}
	return s
}

func wantState(t *testing.T, h *heap.Heap, want state, what string) {
	t.Helper()
	got := stateOf(h)
	if got.stats != want.stats {
		t.Errorf("%s: Stats %+v, want %+v", what, got.stats, want.stats)
	}
	if !slices.Equal(got.image, want.image) {
		t.Errorf("%s: the half holds %#x, want %#x", what, got.image, want.image)
	}
	if !slices.Equal(got.handles, want.handles) {
		t.Errorf("%s: the handles hold %#x, want %#x", what, got.handles, want.handles)
	}
	if !slices.EqualFunc(got.blocks, want.blocks, bytes.Equal) {
		t.Errorf("%s: the blocks hold other bytes", what)
	}
}

func TestP4_1_NoBlobAtThatRef(t *testing.T) {
	h := made(t, 8192)
	ref := laid(t, h, "abcdefghi")
	root(t, h, ref)
	big := laid(t, h, text(600))
	root(t, h, big)
	refs := []uint64{0, ref + 1, ref + 2, ref + 3, ref + 4, 1 << 20, 1 << 40, 1<<63 - 1, slot0 + 1, slot0 + 9, 1<<64 - 1}
	for _, kind := range []int{api.KindList, api.KindNode, api.KindTable, api.KindBuckets, api.KindEntry, api.KindRank, api.KindTower, api.MaxKind} {
		for _, raws := range []int{2, 80} { // of a blob's shape, but for the kind
			other, e := h.Alloc(kind, 0, raws)
			if e != api.OK {
				t.Fatalf("Alloc: %d", e)
			}
			root(t, h, other)
			h.Set(other, 0, 3)
		}
	}
	for handle := 3; handle <= h.Stats().Roots; handle++ {
		refs = append(refs, at(t, h, handle))
	}
	before := stateOf(h)
	for _, ref := range refs {
		refuseAll(t, h, ref)
	}
	wantState(t, h, before, "calls at no blob")
}

// refuseAll makes every call at a ref where no blob is, with arguments that are right and with wrong ones.
func refuseAll(t *testing.T, h *heap.Heap, ref uint64) {
	t.Helper()
	if n, e := blob.Len(h, ref); n != 0 || e != api.ErrBlobRef {
		t.Errorf("Len(%#x) = %d, %d, want ErrBlobRef", ref, n, e)
	}
	if b, e := blob.Read(h, ref); len(b) != 0 || e != api.ErrBlobRef {
		t.Errorf("Read(%#x) = %q, %d, want ErrBlobRef", ref, b, e)
	}
	if n, e := blob.Compare(h, ref, []byte("abc")); n != 0 || e != api.ErrBlobRef {
		t.Errorf("Compare(%#x) = %d, %d, want ErrBlobRef", ref, n, e)
	}
	for _, c := range []struct{ from, n int }{{0, 0}, {0, 1}, {-1, 0}, {0, -1}, {most, most}} {
		if b, e := blob.Slice(h, ref, c.from, c.n); len(b) != 0 || e != api.ErrBlobRef {
			t.Errorf("Slice(%#x, %d, %d) = %q, %d, want ErrBlobRef", ref, c.from, c.n, b, e)
		}
		if n, e := blob.Count(h, ref, c.from, c.n); n != 0 || e != api.ErrBlobRef {
			t.Errorf("Count(%#x, %d, %d) = %d, %d, want ErrBlobRef", ref, c.from, c.n, n, e)
		}
	}
	for _, c := range []struct {
		at int
		b  string
	}{{0, ""}, {0, "a"}, {-1, ""}, {4097, "a"}, {4096, "a"}, {0, text(4097)}} {
		if to, e := blob.Write(h, ref, c.at, []byte(c.b)); to != 0 || e != api.ErrBlobRef {
			t.Errorf("Write(%#x, %d, %d bytes) = %#x, %d, want ErrBlobRef", ref, c.at, len(c.b), to, e)
		}
	}
}

func TestP4_1_ABlobThatIsGone(t *testing.T) {
	h := made(t, 8192)
	small, large := laid(t, h, "abc"), laid(t, h, text(600))
	h.Collect()
	refuseAll(t, h, small)
	refuseAll(t, h, large)
}

func TestP4_2_PartsComeOneBehindTheOther(t *testing.T) {
	h := made(t, 1024)
	for _, c := range []struct {
		parts []string
		want  string
	}{
		{nil, ""},
		{[]string{""}, ""},
		{[]string{"", "", ""}, ""},
		{[]string{"a"}, "a"},
		{[]string{"ab", "", "cd"}, "abcd"},
		{[]string{"", "abcdefg", "h"}, "abcdefgh"},
		{[]string{"abcdefgh", "i", ""}, "abcdefghi"},
		{[]string{"\x00", "\xff", "\x00"}, "\x00\xff\x00"},
		{strings.Split(text(300), ""), text(300)},
	} {
		ref := laid(t, h, c.parts...)
		wantRead(t, h, ref, c.want)
		wantObject(t, h, ref, c.want)
	}
	ref, e := blob.New(h, nil, []byte("a"), []byte{}, nil)
	if e != api.OK {
		t.Errorf("New with nil parts: %d", e)
	}
	wantRead(t, h, ref, "a")
	if ref, e = blob.New(h, nil...); e != api.OK {
		t.Errorf("New of a nil list of parts: %d", e)
	}
	wantRead(t, h, ref, "")
}

func TestP4_2_HowABlobLies(t *testing.T) {
	for _, n := range edges {
		h := made(t, 4096)
		ref := laid(t, h, text(n))
		wantObject(t, h, ref, text(n))
		wantRead(t, h, ref, text(n))
		size, s := 2+word.Words(n), h.Stats()
		if size <= api.LargeWords && (s.Used != 1+size || s.Large != 0) || size > api.LargeWords && (s.Used != 1 || s.Large != 1+size) {
			t.Errorf("a blob of %d bytes takes %d words: %+v", n, size, s)
		}
		if s.Roots != 0 {
			t.Errorf("a blob of %d bytes: %d handles are in use", n, s.Roots)
		}
	}
}

// TestP4_2_NothingIsLeftBehindTheEnd: the words were in use before; behind the last byte they are 0 all the same.
func TestP4_2_NothingIsLeftBehindTheEnd(t *testing.T) {
	h := made(t, 1024)
	laid(t, h, strings.Repeat("\xff", 400))
	h.Collect()
	h.Collect()
	for n := range 20 {
		wantObject(t, h, laid(t, h, text(n)), text(n))
	}
}

func TestP4_2_TooLong(t *testing.T) {
	h := made(t, 8192)
	root(t, h, laid(t, h, "abc"))
	before := stateOf(h)
	for _, parts := range [][]string{
		{text(4097)},
		{text(4096), "x"},
		{"x", text(4096)},
		{text(4097), ""},
		{"", text(5000), text(5000)},
		{text(2048), text(2048), "", "x", ""},
		strings.Split(text(4097), ""),
	} {
		list := make([][]byte, len(parts))
		for i, part := range parts {
			list[i] = []byte(part)
		}
		if ref, e := blob.New(h, list...); ref != 0 || e != api.ErrBlobLong {
			t.Errorf("New of %d parts, the first of %d bytes: %#x, %d, want ErrBlobLong", len(parts), len(parts[0]), ref, e)
		}
	}
	wantState(t, h, before, "a refused New")
	long := make([]byte, 1<<20)
	if _, e := blob.New(h, long, long, long); e != api.ErrBlobLong {
		t.Errorf("New of three long parts: %d, want ErrBlobLong", e)
	}
	wantRead(t, h, laid(t, h, text(4096)), text(4096))
	wantRead(t, h, laid(t, h, "x", text(4095), ""), "x"+text(4095))
}

func TestP4_2_NoRoom(t *testing.T) {
	h := made(t, 128)
	root(t, h, laid(t, h, text(16))) // 4 words: Used 5
	for _, c := range []struct {
		n    int
		want api.Errno
	}{{456, api.OK}, {457, api.ErrHeapFull}, {496, api.ErrHeapFull}, {497, api.ErrHeapFull}, {4096, api.ErrHeapFull}, {4097, api.ErrBlobLong}} { // 59 words fill the half
		ref, e := blob.New(h, []byte(text(c.n)))
		if e != c.want || e != api.OK && ref != 0 {
			t.Errorf("New of %d bytes: %#x, %d, want %d", c.n, ref, e, c.want)
		}
	}
	if got := h.Stats().Roots; got != 1 {
		t.Errorf("%d handles are in use, want 1", got)
	}
	wantRead(t, h, at(t, h, 1), text(16))
}
