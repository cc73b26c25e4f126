package chain_test

import (
	"slices"
	"testing"

	"larder/api"
	"larder/chain"
	"larder/heap"
)

// places are numbers that name no element and no end of any list.
var places = []int{-1, -2, 1 << 20, 1 << 32, most, most - 1, least, least + 1}

// ballast roots objects of that many words in all, so that so much less is free.
func ballast(t *testing.T, h *heap.Heap, n int) {
	t.Helper()
	for n > 0 {
		s := min(n, api.LargeWords)
		ref, e := h.Alloc(api.KindBuckets, 0, s-1)
		if e != api.OK {
			t.Fatalf("Alloc of %d words: %d", s, e)
		}
		h.Root(ref)
		n -= s
	}
}

// load is what is live on a heap, in words: the small objects (word 0 with them) and the blocks of the large ones.
type load struct{ limit, small, large int }

// add tells the load with one object of s words more, and whether the heap has room for it.
func (d load) add(s int) (load, bool) {
	if s <= api.LargeWords {
		d.small += s
		return d, d.small <= (d.limit-d.large)/2
	}
	d.large += s + 1
	return d, d.large+2*max(api.MinHalf, d.small) <= d.limit
}

// hasRoom tells whether a new element of n bytes fits, with a node or (for Set) without one.
func (d load) hasRoom(n int, node bool) bool {
	d, ok := d.add(words(n))
	if ok && node {
		_, ok = d.add(4)
	}
	return ok
}

func TestP5_4_Push(t *testing.T) {
	h := made(t, 12000)
	l := listed(t, h)
	var want []string
	for i, n := range []int{0, 1, 8, 9, 496, 497, 4096, 0, 3} {
		wantErrno(t, "Push", l.Push(i%3 == 0, []byte(text(n))), api.OK)
		if i%3 == 0 {
			want = slices.Insert(want, 0, text(n))
		} else {
			want = append(want, text(n))
		}
		wantList(t, h, l, want...)
	}
	wantErrno(t, "Push of nil", l.Push(true, nil), api.OK)
	wantList(t, h, l, append([]string{""}, want...)...)
}

func TestP5_4_TooLong(t *testing.T) {
	// On the second heap there is no room either: ErrBlobLong is told ahead of that.
	for _, limit := range []int{12000, 128} {
		h := made(t, limit)
		l := listed(t, h, "a", "b")
		for _, n := range []int{4097, 5000, 100000} {
			b := make([]byte, n)
			before := stateOf(h)
			wantErrno(t, "Push", l.Push(true, b), api.ErrBlobLong)
			wantErrno(t, "Push", l.Push(false, b), api.ErrBlobLong)
			wantErrno(t, "Insert", l.Insert(1, b), api.ErrBlobLong)
			wantErrno(t, "Set", l.Set(1, b), api.ErrBlobLong)
			wantErrno(t, "Insert", l.Insert(3, b), api.ErrChainIndex)
			wantErrno(t, "Set", l.Set(2, b), api.ErrChainIndex)
			wantState(t, "an element too long", h, before)
		}
		wantList(t, h, l, "a", "b")
	}
}

// adders are the calls that lay an element and its node.
func adders(b []byte) map[string]func(*chain.List) api.Errno {
	return map[string]func(*chain.List) api.Errno{
		"Push(true)":  func(l *chain.List) api.Errno { return l.Push(true, b) },
		"Push(false)": func(l *chain.List) api.Errno { return l.Push(false, b) },
		"Insert(0)":   func(l *chain.List) api.Errno { return l.Insert(0, b) },
		"Insert(1)":   func(l *chain.List) api.Errno { return l.Insert(1, b) },
		"Insert(2)":   func(l *chain.List) api.Errno { return l.Insert(2, b) },
	}
}

// TestP5_4_Room and P5.7: with so many words taken that the element fits, or lacks one or some.
func TestP5_4_Room(t *testing.T) {
	for _, n := range []int{0, 1, 8, 9, 200, 496, 497, 1000, 4096} {
		for _, limit := range []int{128, 129, 200, 300, 1500} {
			for name, call := range adders([]byte(text(n))) {
				wantRoom(t, name, limit, n, true, call)
			}
		}
	}
}

func TestP5_6_RoomForSet(t *testing.T) {
	for _, n := range []int{0, 1, 8, 9, 200, 496, 497, 1000, 4096} {
		for _, limit := range []int{128, 129, 200, 300, 1500} {
			for i := range 2 {
				wantRoom(t, "Set", limit, n, false, func(l *chain.List) api.Errno { return l.Set(i, []byte(text(n))) })
			}
		}
	}
}

// wantRoom holds a call that lays an element against P3.9, on heaps that are more and more full; the last ones have room for nothing.
func wantRoom(t *testing.T, name string, limit, n int, node bool, call func(*chain.List) api.Errno) {
	t.Helper()
	const own = 4 + 2*(4+3)
	begin := max(0, limit/2-1-own-words(n)-8)
	for taken := begin; 1+own+taken <= limit/2; taken++ {
		h := made(t, limit)
		ballast(t, h, taken)
		roots := h.Stats().Roots
		l := listed(t, h, "a", "b")
		want := api.OK
		if !(load{limit, 1 + own + taken, 0}).hasRoom(n, node) {
			want = api.ErrHeapFull
		}
		if got := call(l); got != want {
			t.Errorf("%s of %d bytes, limit %d, %d words taken: error %d, want %d", name, n, limit, taken, got, want)
		}
		if got := h.Stats().Roots; got != roots+1 {
			t.Errorf("%s: %d handles in use, want %d", name, got, roots+1)
		}
		if want == api.ErrHeapFull {
			wantList(t, h, l, "a", "b")
			wantUsed(t, h, 1+own+taken, 0, roots+1)
		}
		if t.Failed() {
			return
		}
	}
}

func TestP5_5_Pop(t *testing.T) {
	h := made(t, 8000)
	l := listed(t, h, "a", text(600), "", "b", text(8))
	before := h.Stats()
	wantPop(t, l, true, "a", api.OK)
	wantPop(t, l, false, text(8), api.OK)
	wantPop(t, l, true, text(600), api.OK)
	if got := h.Stats(); got != before {
		t.Errorf("Pop: Stats %+v, want %+v", got, before)
	}
	wantList(t, h, l, "", "b")
	wantUsed(t, h, 1+4+4+2+4+3, 0, 1)
	wantPop(t, l, true, "", api.OK)
	wantList(t, h, l, "b")
	wantPop(t, l, true, "b", api.OK)
	for _, front := range []bool{true, false} {
		kept := stateOf(h)
		wantPop(t, l, front, "", api.ErrChainEmpty)
		wantState(t, "Pop of an empty list", h, kept)
		wantList(t, h, l)
		wantErrno(t, "Push", l.Push(front, []byte("x")), api.OK)
		wantList(t, h, l, "x")
		wantPop(t, l, front, "x", api.OK)
		wantList(t, h, l)
	}
	wantUsed(t, h, 5, 0, 1)
}

func TestP5_6_Set(t *testing.T) {
	h := made(t, 12000)
	want := []string{"a", "b", "c", "d", "e"}
	l := listed(t, h, want...)
	for i, n := range []int{0, 600, 1, 4096, 8} {
		wantErrno(t, "Set", l.Set(i, []byte(text(n))), api.OK)
		want[i] = text(n)
		wantList(t, h, l, want...)
	}
	wantUsed(t, h, 1+4+5*4+2+3+3, words(600)+1+words(4096)+1, 1)
	for _, i := range append(places, 5, 6) {
		before := stateOf(h)
		wantErrno(t, "Set", l.Set(i, []byte("x")), api.ErrChainIndex)
		wantState(t, "Set of no element", h, before)
	}
	wantList(t, h, l, want...)
	l.Cut(0, 5)
	wantErrno(t, "Set of an empty list", l.Set(0, nil), api.ErrChainIndex)
}

// TestP5_6_SetLaysANewBlob: also where the old one has the words for the new bytes, or the same bytes.
func TestP5_6_SetLaysANewBlob(t *testing.T) {
	h := made(t, 2000)
	h.Resize(800)
	l := listed(t, h, "abc")
	node := field(t, h, l.Ref(), 0)
	old := field(t, h, node, 2)
	for _, b := range []string{"abd", "abd", "", "12345678", "abd"} {
		before := h.Stats()
		wantErrno(t, "Set", l.Set(0, []byte(b)), api.OK)
		before.Used += words(len(b))
		if got := h.Stats(); got != before {
			t.Errorf("Set(0, %q): Stats %+v, want %+v", b, got, before)
		}
		wantList(t, h, l, b)
	}
	if b, e := h.Bytes(old, 8, 3); string(b) != "abc" || e != api.OK {
		t.Errorf("the old element became %q, %d", b, e)
	}
	if field(t, h, l.Ref(), 0) != node {
		t.Error("Set laid a new node")
	}
}

func TestP5_7_Insert(t *testing.T) {
	h := made(t, 12000)
	l := listed(t, h)
	var want []string
	for _, i := range []int{0, 0, 2, 1, 3, 5, 0, 4, 7, 9, 8, 6} {
		b := text(3 * len(want) * len(want))
		wantErrno(t, "Insert", l.Insert(i, []byte(b)), api.OK)
		want = slices.Insert(want, i, b)
		wantList(t, h, l, want...)
	}
	for _, i := range append(places, len(want)+1, len(want)+2) {
		before := stateOf(h)
		wantErrno(t, "Insert", l.Insert(i, []byte("x")), api.ErrChainIndex)
		wantState(t, "Insert at no place", h, before)
	}
	wantList(t, h, l, want...)
	wantErrno(t, "Insert of nil", l.Insert(3, nil), api.OK)
	wantList(t, h, l, slices.Insert(want, 3, "")...)
}

func TestP5_8_Cut(t *testing.T) {
	whole := []string{"a", "b", "c", "d", "e", "f", "g"}
	for i := range len(whole) + 1 {
		for n := range len(whole) + 1 - i {
			h := made(t, 1000)
			l := listed(t, h, whole...)
			h.Collect()
			before := h.Stats()
			wantErrno(t, "Cut", l.Cut(i, n), api.OK)
			if got := h.Stats(); got != before {
				t.Errorf("Cut: Stats %+v, want %+v", got, before)
			}
			want := slices.Delete(slices.Clone(whole), i, i+n)
			wantList(t, h, l, want...)
			wantUsed(t, h, 1+4+7*len(want), 0, 1)
			wantErrno(t, "Push", l.Push(i%2 == 0, []byte("x")), api.OK)
			if i%2 == 0 {
				want = slices.Insert(want, 0, "x")
			} else {
				want = append(want, "x")
			}
			wantList(t, h, l, want...)
		}
	}
}

// wrongSpans are places and counts that lie outside a list of three elements.
var wrongSpans = [][2]int{
	{0, 4}, {1, 3}, {2, 2}, {3, 1}, {4, 0}, {4, 1}, {4, -1}, {5, -2}, {-1, 0}, {-1, 1}, {-1, 4}, {0, -1}, {3, -1}, {1, most}, {most, 1}, {most, most}, {most, 0},
	{most, least}, {least, most}, {least, 0}, {0, least}, {least, least}, {1, least}, {-3, 3}, {most, 4}, {most - 1, 3}, {3, most}, {0, most}, {1 << 32, 1}, {1, 1 << 32},
}

func TestP5_8_NoSuchElements(t *testing.T) {
	h := made(t, 1000)
	l := listed(t, h, "a", "b", "c")
	before := stateOf(h)
	for _, c := range wrongSpans {
		if e := l.Cut(c[0], c[1]); e != api.ErrChainIndex {
			t.Errorf("Cut(%d, %d): error %d, want ErrChainIndex", c[0], c[1], e)
		}
	}
	wantState(t, "Cut of no elements", h, before)
	wantList(t, h, l, "a", "b", "c")
	empty := listed(t, h)
	wantErrno(t, "Cut of an empty list", empty.Cut(0, 1), api.ErrChainIndex)
	wantErrno(t, "Cut of an empty list", empty.Cut(1, 0), api.ErrChainIndex)
	wantErrno(t, "Cut of an empty list", empty.Cut(0, 0), api.OK)
	wantList(t, h, empty)
}

func TestP5_9_Strike(t *testing.T) {
	for _, c := range []struct {
		list  string
		front bool
		most  int
		b     string
		n     int
		want  string
	}{
		{"a,b,a,c,a", true, 1, "a", 1, "b,a,c,a"},
		{"a,b,a,c,a", false, 1, "a", 1, "a,b,a,c"},
		{"a,b,a,c,a", true, 3, "a", 3, "b,c"},
		{"a,b,a,c,a", false, 3, "a", 3, "b,c"},
		{"a,b,a,c,a", false, most, "a", 3, "b,c"},
		{"a,b,a,c,a", true, most, "a", 3, "b,c"},
		{"a,b,a,c,a", true, -1, "a", 0, "a,b,a,c,a"},
		{"a,b,a,c,a", false, 0, "a", 0, "a,b,a,c,a"},
		{"a,b,a,c,a", false, least, "a", 0, "a,b,a,c,a"},
		{"a,a,a,a", true, 2, "a", 2, "a,a"},
		{"a,a,a,a", false, 4, "a", 4, ""},
		{"a,a,a,a", true, 5, "a", 4, ""},
		{"x,a,a,a,y", true, 2, "a", 2, "x,a,y"},
		{"a", false, 1, "a", 1, ""},
		{"a", false, 1, "b", 0, "a"},
		{"ab,a,abc,", true, 9, "ab", 1, "a,abc,"},
		{"ab,a,abc,,", true, 9, "", 2, "ab,a,abc"},
		{"", true, 9, "", 0, ""},
		{"", false, 9, "a", 0, ""},
	} {
		h := made(t, 1000)
		l := listed(t, h, split(c.list)...)
		h.Collect()
		before := h.Stats()
		wantStrike(t, l, c.front, c.most, c.b, c.n)
		if got := h.Stats(); got != before {
			t.Errorf("Strike: Stats %+v, want %+v", got, before)
		}
		want := split(c.want)
		wantList(t, h, l, want...)
		wantErrno(t, "Push", l.Push(c.front, []byte("new")), api.OK)
		if c.front {
			want = slices.Insert(want, 0, "new")
		} else {
			want = append(want, "new")
		}
		wantList(t, h, l, want...)
	}
}

func TestP5_9_StrikeOfALongText(t *testing.T) {
	h := made(t, 8000)
	l := listed(t, h, text(4096), "a", text(4095))
	for _, n := range []int{4097, 5000, 100000} {
		before := stateOf(h)
		wantStrike(t, l, true, 9, text(n), 0)
		wantStrike(t, l, false, 9, text(n), 0)
		wantState(t, "Strike of a text too long", h, before)
	}
	wantStrike(t, l, false, 9, text(4096), 1)
	wantList(t, h, l, "a", text(4095))
}

// TestP5_9_StrikeLeavesNothing: what was taken away is gone behind a collection.
func TestP5_9_StrikeLeavesNothing(t *testing.T) {
	h := made(t, 8000)
	l := listed(t, h, text(600), "a", text(600), "b", text(600))
	wantStrike(t, l, false, 2, text(600), 2)
	wantList(t, h, l, text(600), "a", "b")
	wantUsed(t, h, 1+4+3*4+2*3, words(600)+1, 1)
}
