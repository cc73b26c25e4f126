package chain_test

import (
	"slices"
	"strings"
	"testing"

	"larder/api"
	"larder/blob"
	"larder/chain"
	"larder/heap"
	"larder/word"
)

const (
	least, most = -1 << 63, 1<<63 - 1
	slot0       = uint64(1) << 63 // the ref of the object in slot 0
)

func made(t *testing.T, limit int) *heap.Heap {
	t.Helper()
	h, e := heap.New(limit)
	if e != api.OK || h == nil {
		t.Fatalf("heap.New(%d): %d", limit, e)
	}
	return h
}

// listed makes an open list of those elements.
func listed(t *testing.T, h *heap.Heap, elements ...string) *chain.List {
	t.Helper()
	l, e := chain.New(h)
	if e != api.OK || l == nil {
		t.Fatalf("New: %d", e)
	}
	for _, b := range elements {
		wantErrno(t, "Push", l.Push(false, []byte(b)), api.OK)
	}
	return l
}

// text is n bytes, none of them 0.
func text(n int) string {
	b := make([]byte, n)
	for i := range b {
		b[i] = byte(1 + i%251)
	}
	return string(b)
}

// words tells B(n) of the chapter.
func words(n int) int { return 2 + word.Words(n) }

func wantErrno(t *testing.T, what string, got, want api.Errno) {
	t.Helper()
	if got != want {
		t.Errorf("%s: error %d, want %d", what, got, want)
	}
}

// wantList holds what a list tells, and how it lies on the heap, against the elements that it should have.
func wantList(t *testing.T, h *heap.Heap, l *chain.List, want ...string) {
	t.Helper()
	if got := l.Len(); got != len(want) {
		t.Errorf("Len = %d, want %d", got, len(want))
		return
	}
	all, e := l.Slice(0, len(want))
	if e != api.OK || !slices.Equal(texts(all), want) {
		t.Errorf("the list is %.200q, %d, want %.200q", all, e, want)
	}
	for i, b := range want {
		if got, e := l.Get(i); string(got) != b || e != api.OK {
			t.Errorf("Get(%d) = %.40q, %d, want %.40q", i, got, e, b)
		}
	}
	if got := told(l); !slices.Equal(got, want) {
		t.Errorf("All tells %.200q, want %.200q", got, want)
	}
	wantLaid(t, h, l.Ref(), want)
}

// told ranges over All.
func told(l *chain.List) []string {
	var found []string
	for i, b := range l.All() {
		if i != len(found) {
			return append(found, "a wrong number")
		}
		found = append(found, string(b))
	}
	return found
}

func texts(list [][]byte) []string {
	var found []string
	for _, b := range list {
		found = append(found, string(b))
	}
	return found
}

// wantLaid goes through a list's objects as the chapter says that they lie.
func wantLaid(t *testing.T, h *heap.Heap, ref uint64, want []string) {
	t.Helper()
	wantShape(t, h, ref, api.KindList, 2, 1)
	if n := field(t, h, ref, 2); n != uint64(len(want)) {
		t.Errorf("the head cell counts %d elements, want %d", n, len(want))
	}
	previous, node := uint64(0), field(t, h, ref, 0)
	for i, b := range want {
		wantShape(t, h, node, api.KindNode, 3, 0)
		if got := field(t, h, node, 0); got != previous {
			t.Fatalf("node %d: the one ahead of it is %#x, want %#x", i, got, previous)
		}
		if got, e := blob.Read(h, field(t, h, node, 2)); string(got) != b || e != api.OK {
			t.Errorf("node %d: its blob is %.40q, %d, want %.40q", i, got, e, b)
		}
		previous, node = node, field(t, h, node, 1)
	}
	if last := field(t, h, ref, 1); node != 0 || last != previous {
		t.Errorf("behind the last node stands %#x; the last node is %#x, want %#x", node, last, previous)
	}
}

func wantShape(t *testing.T, h *heap.Heap, ref uint64, kind, refs, raws int) {
	t.Helper()
	k, r, w, e := h.Object(ref)
	if k != kind || r != refs || w != raws || e != api.OK {
		t.Fatalf("the object at %#x: %d, %d, %d, %d, want %d, %d, %d", ref, k, r, w, e, kind, refs, raws)
	}
}

func field(t *testing.T, h *heap.Heap, ref uint64, i int) uint64 {
	t.Helper()
	v, e := h.Get(ref, i)
	if e != api.OK {
		t.Fatalf("Get(%#x, %d): %d", ref, i, e)
	}
	return v
}

// wantUsed collects and holds what is left on the heap against the words that should be.
func wantUsed(t *testing.T, h *heap.Heap, used, large, roots int) {
	t.Helper()
	h.Collect()
	if s := h.Stats(); s.Used != used || s.Large != large || s.Roots != roots {
		t.Errorf("behind a collection: Used %d, Large %d, Roots %d, want %d, %d, %d", s.Used, s.Large, s.Roots, used, large, roots)
	}
}

// state is all that a heap tells of itself without being changed.
type state struct {
	stats   api.HeapStats
	image   []uint64
	handles []uint64
}

func stateOf(h *heap.Heap) state {
	s := state{stats: h.Stats(), image: h.Image()}
	for n := 1; n <= s.stats.Roots+2; n++ {
		ref, _ := h.At(n)
		s.handles = append(s.handles, ref)
	}
	return s
}

func wantState(t *testing.T, what string, h *heap.Heap, want state) {
	t.Helper()
	got := stateOf(h)
	if got.stats != want.stats {
		t.Errorf("%s: Stats %+v, want %+v", what, got.stats, want.stats)
	}
	if !slices.Equal(got.image, want.image) || !slices.Equal(got.handles, want.handles) {
		t.Errorf("%s: the half or the handles hold other things than before", what)
	}
}

func TestP5_1_New(t *testing.T) {
	h := made(t, 1000)
	l := listed(t, h)
	wantList(t, h, l)
	m := listed(t, h, "a")
	wantList(t, h, l)
	wantList(t, h, m, "a")
	if l.Ref() == m.Ref() {
		t.Error("two lists are one")
	}
	wantUsed(t, h, 1+4+4+4+3, 0, 2)
}

func TestP5_1_RoomForFourWords(t *testing.T) {
	for free := range 7 {
		h := made(t, 128)
		ref, e := h.Alloc(api.KindBuckets, 0, 62-free)
		if e != api.OK {
			t.Fatalf("Alloc: %d", e)
		}
		h.Root(ref)
		l, e := chain.New(h)
		if free >= 4 {
			if l == nil || e != api.OK {
				t.Errorf("%d words free: New: %d", free, e)
			}
			continue
		}
		if l != nil || e != api.ErrHeapFull {
			t.Errorf("%d words free: New: %d, want ErrHeapFull", free, e)
		}
		wantUsed(t, h, 64-free, 0, 1)
	}
}

func TestP5_2_OpenAgain(t *testing.T) {
	h := made(t, 1000)
	l := listed(t, h, "a", "b")
	before := h.Stats()
	m, e := chain.Open(h, l.Ref())
	if m == nil || e != api.OK {
		t.Fatalf("Open: %d", e)
	}
	before.Roots++
	if got := h.Stats(); got != before {
		t.Errorf("Open: Stats %+v, want %+v", got, before)
	}
	m.Push(true, []byte("z"))
	wantList(t, h, l, "z", "a", "b")
	l.Cut(1, 1)
	wantList(t, h, m, "z", "b")
	h.Collect()
	if l.Ref() != m.Ref() {
		t.Errorf("one list lies at %#x and at %#x", l.Ref(), m.Ref())
	}
	l.Close()
	h.Collect()
	wantList(t, h, m, "z", "b")
	again, e := chain.Open(h, m.Ref())
	if e != api.OK {
		t.Fatalf("Open: %d", e)
	}
	m.Close()
	wantUsed(t, h, 1+4+2*(4+3), 0, 1)
	wantList(t, h, again, "z", "b")
}

func TestP5_2_NoListAtThatRef(t *testing.T) {
	h := made(t, 4000)
	wantErrno(t, "Resize", h.Resize(1000), api.OK)
	l := listed(t, h, "a", text(600))
	collections := h.Stats().Collections
	node := field(t, h, l.Ref(), 0)
	refs := []uint64{0, node, field(t, h, node, 2), slot0, slot0 + 1, l.Ref() + 1, 1 << 40, 1<<64 - 1}
	for _, shape := range [][3]int{{api.KindList, 2, 0}, {api.KindList, 2, 2}, {api.KindList, 1, 1}, {api.KindList, 3, 1}, {api.KindList, 1, 2}, {api.KindList, 2, 100}, {api.KindNode, 2, 1}, {api.KindBlob, 2, 1}, {api.KindTable, 2, 1}} {
		ref, e := h.Alloc(shape[0], shape[1], shape[2])
		if e != api.OK {
			t.Fatalf("Alloc: %d", e)
		}
		refs = append(refs, ref)
	}
	if h.Stats().Collections != collections {
		t.Fatal("the heap has collected: the refs aren't right any more")
	}
	before := stateOf(h)
	for _, ref := range refs {
		if m, e := chain.Open(h, ref); m != nil || e != api.ErrChainRef {
			t.Errorf("Open(%#x): %v, %d, want ErrChainRef", ref, m != nil, e)
		}
	}
	wantState(t, "Open of no list", h, before)
	h.Collect()
	gone := listed(t, h)
	ref := gone.Ref()
	gone.Close()
	h.Collect()
	if m, e := chain.Open(h, ref); m != nil || e != api.ErrChainRef {
		t.Errorf("Open of a list that was collected: %d", e)
	}
}

func TestP5_3_RefLeadsToTheHeadCell(t *testing.T) {
	h := made(t, 2000)
	gap, _ := h.Alloc(api.KindBuckets, 0, 10)
	handle, _ := h.Root(gap)
	l := listed(t, h, "a")
	if l.Ref() != gap+11 {
		t.Errorf("Ref = %#x, want %#x", l.Ref(), gap+11)
	}
	h.Drop(handle)
	h.Collect()
	if l.Ref() != 1 {
		t.Errorf("behind a collection Ref = %#x, want 1", l.Ref())
	}
	wantList(t, h, l, "a")
}

func TestP5_3_Closed(t *testing.T) {
	h := made(t, 1000)
	l, other := listed(t, h, "a", "b"), listed(t, h, "c")
	all := l.All()
	before := h.Stats()
	l.Close()
	before.Roots--
	if got := h.Stats(); got != before {
		t.Errorf("Close: Stats %+v, want %+v", got, before)
	}
	// The handle that was given back is another's now: Close may not touch it again.
	third := listed(t, h, "d")
	l.Close()
	l.Close()
	wantList(t, h, third, "d")
	kept := stateOf(h)
	if l.Ref() != 0 || l.Len() != 0 {
		t.Errorf("of a closed list: Ref %#x, Len %d", l.Ref(), l.Len())
	}
	long := make([]byte, api.MaxText+1)
	for _, i := range []int{0, 1, 2, -1, least, most} {
		wantErrno(t, "Push", l.Push(i == 0, long), api.ErrChainShut)
		wantErrno(t, "Set", l.Set(i, long), api.ErrChainShut)
		wantErrno(t, "Insert", l.Insert(i, long), api.ErrChainShut)
		wantErrno(t, "Cut", l.Cut(i, i), api.ErrChainShut)
		if b, e := l.Pop(i == 0); len(b) != 0 || e != api.ErrChainShut {
			t.Errorf("Pop: %q, %d", b, e)
		}
		if b, e := l.Get(i); len(b) != 0 || e != api.ErrChainShut {
			t.Errorf("Get: %q, %d", b, e)
		}
		if n, e := l.Strike(i == 0, i, []byte("a")); n != 0 || e != api.ErrChainShut {
			t.Errorf("Strike: %d, %d", n, e)
		}
		if b, e := l.Slice(i, i); len(b) != 0 || e != api.ErrChainShut {
			t.Errorf("Slice: %q, %d", b, e)
		}
	}
	for range all {
		t.Error("All of a closed list tells an element")
	}
	for range l.All() {
		t.Error("All of a closed list tells an element")
	}
	wantState(t, "the calls of a closed list", h, kept)
	wantList(t, h, other, "c")
	wantList(t, h, third, "d")
	wantUsed(t, h, 1+2*(4+4+3), 0, 2)
}

// TestHowAListLies holds the heap behind a collection against the chapter's words, elements of all sizes among them.
func TestHowAListLies(t *testing.T) {
	h := made(t, 8000)
	var want []string
	used, large := 1+4, 0
	for _, n := range []int{0, 1, 8, 9, 495, 496, 497, 4095, 4096} {
		want = append(want, text(n))
		used += 4
		if words(n) > api.LargeWords {
			large += 1 + words(n)
		} else {
			used += words(n)
		}
	}
	l := listed(t, h, want...)
	wantList(t, h, l, want...)
	wantUsed(t, h, used, large, 1)
	wantList(t, h, l, want...)
	l.Cut(0, len(want))
	wantList(t, h, l)
	wantUsed(t, h, 5, 0, 1)
	l.Close()
	wantUsed(t, h, 1, 0, 0)
}

// split tells the elements of a text with commas between them; of the empty text none.
func split(s string) []string {
	if s == "" {
		return nil
	}
	return strings.Split(s, ",")
}
