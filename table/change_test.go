package table_test

import (
	"slices"
	"strconv"
	"testing"

	"larder/api"
	"larder/heap"
	"larder/table"
)

// load is what is live on a heap, in words: the small objects (word 0 with them) and the blocks of the large ones.
type load struct{ limit, small, large int }

// add tells the load with one object of s words more, and whether the heap has room for it (P3.9).
func (d load) add(s int) (load, bool) {
	if s <= api.LargeWords {
		d.small += s
		return d, d.small <= (d.limit-d.large)/2
	}
	d.large += s + 1
	return d, d.large+2*max(api.MinHalf, d.small) <= d.limit
}

// put tells the load with a key of n bytes more, and whether there is room for its blob and its entry.
func (d load) put(n int) (load, bool) {
	d, ok := d.add(words(n))
	if !ok {
		return d, false
	}
	return d.add(7)
}

// counted tells the keys from 0 to n - 1.
func counted(n int) []string {
	var keys []string
	for i := range n {
		keys = append(keys, strconv.Itoa(i))
	}
	return keys
}

func TestP6_4_Put(t *testing.T) {
	h := made(t, 20000)
	m := tabled(t, h, 5)
	var keys []string
	for i, n := range []int{0, 1, 7, 8, 9, 496, 497, 4095, 4096} {
		keys = append(keys, text(n))
		wantPut(t, m, text(n), 0, uint64(i), 1<<64-1, true, api.OK)
		wantKeys(t, m, 5, keys...)
	}
	h.Collect()
	for i, key := range keys {
		wantGet(t, m, key, 0, uint64(i), 1<<64-1, api.OK)
		wantPut(t, m, key, 0, 1<<63, uint64(i), false, api.OK)
		wantGet(t, m, key, 0, 1<<63, uint64(i), api.OK)
	}
	wantKeys(t, m, 5, keys...)
}

// TestP6_4_KeysThatAreNearlyOne: no two of them are taken for one key.
func TestP6_4_KeysThatAreNearlyOne(t *testing.T) {
	h := made(t, 4000)
	keys := []string{"", "\x00", "\x00\x00", "a", "A", "a\x00", "aa", "abcdefgh", "abcdefg", "abcdefgh\x00", "abcdefghi", "\xff", "\xff\xff"}
	m := tabled(t, h, 0, keys...)
	wantKeys(t, m, 0, keys...)
	for i, key := range keys {
		wantGet(t, m, key, 0, uint64(i+1), uint64(100*(i+1)), api.OK)
	}
	for i, key := range keys {
		wantErrno(t, "Delete", m.Delete([]byte(key)), api.OK)
		wantKeys(t, m, 0, keys[i+1:]...)
	}
}

func TestP6_4_KeysOfOneHash(t *testing.T) {
	h := made(t, 10000)
	var keys []string
	for n := range uint64(40) {
		keys = append(keys, hashed(9, 5<<60, n))
	}
	m := tabled(t, h, 9, keys...)
	wantKeys(t, m, 9, keys...)
	for i, key := range keys {
		wantGet(t, m, key, 0, uint64(i+1), uint64(100*(i+1)), api.OK)
	}
	for m.Step() {
		wantKeys(t, m, 9, keys...)
	}
	for _, i := range []int{39, 0, 17, 1, 20} {
		wantErrno(t, "Delete", m.Delete([]byte(keys[i])), api.OK)
		wantGet(t, m, keys[i], 0, 0, 0, api.ErrTableNone)
		wantPut(t, m, keys[(i+2)%40], 0, 8, 9, false, api.OK)
		wantPut(t, m, keys[i], 0, 8, 9, true, api.OK)
		wantKeys(t, m, 9, keys...)
	}
}

// midway is a table with a rehash on, so that a step could be seen.
func midway(t *testing.T, h *heap.Heap) *table.Table {
	t.Helper()
	m := tabled(t, h, 1, "a", "b", "c", "d", "e")
	wantShape(t, m, 5, 8, 4, 0)
	return m
}

func TestP6_4_WrongArguments(t *testing.T) {
	h := made(t, 20000)
	wantErrno(t, "Resize", h.Resize(2000), api.OK)
	m := midway(t, h)
	gone := tabled(t, h, 1)
	ref := gone.Ref()
	gone.Close()
	h.Collect()
	before := stateOf(h)
	for _, bad := range []uint64{ref, m.Ref() + 1, 1999, 2000, 1 << 40, slot0, slot0 + 1, 1<<64 - 1} {
		for _, key := range []string{"", "a", "x", text(4096)} {
			wantPut(t, m, key, bad, 8, 9, false, api.ErrHeapRef)
		}
		wantPut(t, m, text(4097), bad, 8, 9, false, api.ErrTableKey)
	}
	for _, n := range []int{4097, 5000, 100000} {
		wantPut(t, m, text(n), 0, 8, 9, false, api.ErrTableKey)
		wantPut(t, m, text(n), m.Ref(), 8, 9, false, api.ErrTableKey)
	}
	wantState(t, "a Put that is refused", h, before)
	wantShape(t, m, 5, 8, 4, 0)
	wantGet(t, m, "a", 0, 1, 100, api.OK)
}

func TestP6_4_APutOfAKeyThatIsThereAllocatesNothing(t *testing.T) {
	h := made(t, 4000)
	keys := counted(17)
	m := tabled(t, h, 3, keys...)
	wantShape(t, m, 17, 32, 16, 0)
	small, _ := h.Alloc(99, 0, 1)
	handle, _ := h.Root(small)
	before := h.Stats()
	for i, key := range keys {
		small, _ = h.At(handle)
		wantPut(t, m, key, small, uint64(i), 0, false, api.OK)
		wantGet(t, m, key, small, uint64(i), 0, api.OK)
	}
	wantShape(t, m, 17, 32, 0, 0)
	if got := h.Stats(); got != before {
		t.Errorf("Stats %+v, want %+v", got, before)
	}
	for _, key := range keys {
		wantPut(t, m, key, 0, 0, 0, false, api.OK)
	}
	h.Drop(handle)
	wantUsed(t, h, 1+6+33+17*10, 0, 1) // what was under the keys is gone
}

// TestP6_4_TheRefIsKeptRight: nothing but the call itself leads to what is put, while it collects at each of its steps.
func TestP6_4_TheRefIsKeptRight(t *testing.T) {
	moved := 0
	for filled := 100; filled <= 150; filled++ {
		h := made(t, 3000)
		wantErrno(t, "Resize", h.Resize(200), api.OK)
		m := tabled(t, h, 8, "a", "b", "c", "d")
		for range filled {
			h.Alloc(api.KindNode, 0, 0)
		}
		ref, e := h.Alloc(99, 0, 1)
		wantErrno(t, "Alloc", e, api.OK)
		h.Set(ref, 0, 4711)
		before := h.Stats().Collections
		wantPut(t, m, "key", ref, 5, 6, true, api.OK)
		if h.Stats().Collections > before {
			moved++
		}
		now, a, b, e := m.Get([]byte("key"))
		if v := field(t, h, now, 0); v != 4711 || a != 5 || b != 6 || e != api.OK {
			t.Fatalf("%d words ahead: what is under the key is %d, %d, %d, %d", filled, v, a, b, e)
		}
		wantKeys(t, m, 8, "a", "b", "c", "d", "key")
		wantShape(t, m, 5, 8, 4, 0)
		wantUsed(t, h, 1+6+5+9+5*10+2, 0, 1)
	}
	if moved < 15 {
		t.Errorf("just %d of the calls collected", moved)
	}
}

func TestP6_4_RefsOfLargeObjectsAndOfTheTable(t *testing.T) {
	h := made(t, 4000)
	m := tabled(t, h, 8)
	large, e := h.Alloc(99, 0, 100)
	wantErrno(t, "Alloc", e, api.OK)
	wantPut(t, m, "large", large, 1, 2, true, api.OK)
	wantPut(t, m, "self", m.Ref(), 3, 4, true, api.OK)
	h.Collect()
	wantGet(t, m, "large", large, 1, 2, api.OK)
	wantGet(t, m, "self", m.Ref(), 3, 4, api.OK)
	wantUsed(t, h, 1+6+5+20, 102, 1)
	wantErrno(t, "Delete", m.Delete([]byte("large")), api.OK)
	wantUsed(t, h, 1+6+5+10, 0, 1)
	m.Close()
	wantUsed(t, h, 1, 0, 0)
}

// TestP6_4_RoomForKeyAndEntry holds Put against P3.9 on heaps of many fillings.
func TestP6_4_RoomForKeyAndEntry(t *testing.T) {
	for _, n := range []int{0, 8, 60, 496, 497, 600} {
		for _, limit := range []int{128, 180, 400} {
			for taken := 1; taken <= 64; taken++ {
				putAtTheBrim(t, limit, taken, n)
			}
		}
	}
}

// putAtTheBrim puts a key of n bytes, with a ref of 3 words, where so many words are taken beside a table of two keys.
func putAtTheBrim(t *testing.T, limit, taken, n int) {
	t.Helper()
	h := made(t, limit)
	m := tabled(t, h, 6, "a", "b")
	ref, e := h.Alloc(99, 0, taken-1)
	if e != api.OK {
		return
	}
	h.Root(ref)
	value, e := h.Alloc(98, 0, 2)
	if e != api.OK {
		return
	}
	own := load{limit, 1 + 11 + 20 + taken, 0}
	with, _ := own.add(3)
	_, room := with.put(n)
	if room {
		wantPut(t, m, text(n), value, 5, 6, true, api.OK)
		wantKeys(t, m, 6, "a", "b", text(n))
		return
	}
	wantPut(t, m, text(n), value, 5, 6, false, api.ErrHeapFull)
	if got := h.Stats().Roots; got != 2 {
		t.Fatalf("%d handles are in use", got)
	}
	wantKeys(t, m, 6, "a", "b")
	wantShape(t, m, 2, 4, 0, 0)
	wantPut(t, m, "a", 0, 5, 6, false, api.OK)
	wantUsed(t, h, own.small, 0, 2)
}

// TestP6_4_GrowsAboveTheNumberOfBuckets tells at which Len a rehash begins.
func TestP6_4_GrowsAboveTheNumberOfBuckets(t *testing.T) {
	h := made(t, 1<<17)
	m := tabled(t, h, 2)
	buckets, old, moved := 4, 0, 0
	for i, key := range counted(1100) {
		if old > 0 {
			if moved += 16; moved >= old {
				old, moved = 0, 0
			}
		}
		wantPut(t, m, key, 0, 0, 0, true, api.OK)
		if old == 0 && i+1 > buckets {
			buckets, old = 2*buckets, buckets
		}
		wantShape(t, m, i+1, buckets, old, moved)
	}
}

// TestP6_4_NoRoomToGrow: it goes on without, and each later Put of a new key tries anew.
func TestP6_4_NoRoomToGrow(t *testing.T) {
	h := made(t, 200)
	ballast, _ := h.Alloc(99, 0, 29)
	handle, _ := h.Root(ballast)
	m := tabled(t, h, 2, "a", "b", "c", "d", "e")
	wantShape(t, m, 5, 4, 0, 0) // 1 + 30 + 11 + 50: 92 of 100, and 9 more find no room
	wantPut(t, m, "f", 0, 0, 0, false, api.ErrHeapFull)
	wantShape(t, m, 5, 4, 0, 0)
	h.Drop(handle)
	wantPut(t, m, "e", 0, 0, 0, false, api.OK)
	wantShape(t, m, 5, 4, 0, 0) // a key that is there allocates nothing
	wantErrno(t, "Delete", m.Delete([]byte("x")), api.ErrTableNone)
	wantErrno(t, "Delete", m.Delete([]byte("e")), api.OK)
	wantShape(t, m, 4, 4, 0, 0)
	wantPut(t, m, "e", 0, 0, 0, true, api.OK)
	wantShape(t, m, 5, 8, 4, 0)
	wantKeys(t, m, 2, "a", "b", "c", "d", "e")
}

// squeeze lays a block beside what is live, so that small objects of just so many words find room, and tells its handle.
func squeeze(t *testing.T, h *heap.Heap, words int) int {
	t.Helper()
	h.Collect()
	s := h.Stats()
	free := s.Limit - s.Large - 2*max(s.Used+words, api.MinHalf)
	ref, e := h.Alloc(99, 0, free-2)
	if e != api.OK {
		t.Fatalf("Alloc of a block of %d words: %d", free, e)
	}
	handle, e := h.Root(ref)
	wantErrno(t, "Root", e, api.OK)
	return handle
}

// crowded is a table with more keys than buckets: when they came there was no room for a greater array.
func crowded(t *testing.T, h *heap.Heap, seed uint64, roomy int, keys []string) *table.Table {
	t.Helper()
	m := tabled(t, h, seed, keys[:roomy]...)
	for m.Step() {
	}
	buckets := m.Shape().Buckets
	for i, key := range keys[roomy:] {
		handle := squeeze(t, h, 14) // a key takes 10, an array of 8 buckets 9
		wantPut(t, m, key, 0, 0, 0, true, api.OK)
		wantShape(t, m, roomy+i+1, buckets, 0, 0)
		h.Drop(handle)
	}
	return m
}

// TestP6_4_GrowsByTwoOnly: also where there are many keys more than buckets.
func TestP6_4_GrowsByTwoOnly(t *testing.T) {
	h := made(t, 2000)
	filler, _ := h.Alloc(99, 0, 60)
	h.Root(filler)
	keys := counted(24)
	m := crowded(t, h, 2, 4, keys[:20])
	wantKeys(t, m, 2, keys[:20]...)
	for i, want := range [][2]int{{8, 4}, {16, 8}, {32, 16}, {32, 0}} { // the step ends a rehash, and the next one begins
		wantPut(t, m, keys[20+i], 0, 0, 0, true, api.OK)
		wantShape(t, m, 21+i, want[0], want[1], 0)
		wantKeys(t, m, 2, keys[:21+i]...)
	}
}

// TestP6_4_NoRehashWithinARehash: with far too many keys a second one waits for the first to end.
func TestP6_4_NoRehashWithinARehash(t *testing.T) {
	h := made(t, 8000)
	keys := counted(99)
	m := crowded(t, h, 2, 32, keys[:90])
	for i, want := range [][3]int{{64, 32, 0}, {64, 32, 16}, {128, 64, 0}, {128, 64, 16}, {128, 64, 32}, {128, 64, 48}, {128, 0, 0}} {
		wantPut(t, m, keys[90+i], 0, 0, 0, true, api.OK)
		wantShape(t, m, 91+i, want[0], want[1], want[2])
		wantKeys(t, m, 2, keys[:91+i]...)
	}
}

// TestP6_4_AStepAheadOfARefusal: a Put that finds no room has made its step.
func TestP6_4_AStepAheadOfARefusal(t *testing.T) {
	h := made(t, 1200)
	keys := counted(33)
	m := tabled(t, h, 2, keys...)
	wantShape(t, m, 33, 64, 32, 0)
	wantPut(t, m, text(4096), 0, 0, 0, false, api.ErrHeapFull)
	wantShape(t, m, 33, 64, 32, 16)
	wantKeys(t, m, 2, keys...)
	wantPut(t, m, text(4000), 0, 0, 0, false, api.ErrHeapFull)
	wantShape(t, m, 33, 64, 0, 0)
	wantKeys(t, m, 2, keys...)
	wantUsed(t, h, 1+6+33*10, 66, 1)
}

// TestP6_4_TheBucketIsMadeOfTheTopBits looks at which buckets of the arrays hold something.
func TestP6_4_TheBucketIsMadeOfTheTopBits(t *testing.T) {
	h := made(t, 2000)
	m := tabled(t, h, 3)
	wantPut(t, m, hashed(3, 2<<62, 0), 0, 0, 0, true, api.OK)
	wantPut(t, m, hashed(3, 3<<62-1, 0), 0, 0, 0, true, api.OK)
	wantPut(t, m, hashed(3, 3, 0), 0, 0, 0, true, api.OK)
	wantBuckets(t, h, 4, 0, 2)
	wantPut(t, m, hashed(3, 1<<64-1, 0), 0, 0, 0, true, api.OK)
	wantBuckets(t, h, 4, 0, 2, 3)
	wantPut(t, m, hashed(3, 1<<61, 0), 0, 0, 0, true, api.OK)
	wantShape(t, m, 5, 8, 4, 0)
	m.Step()
	wantBuckets(t, h, 8, 0, 1, 4, 5, 7)
	wantErrno(t, "Delete", m.Delete([]byte(hashed(3, 2<<62, 0))), api.OK)
	wantBuckets(t, h, 8, 0, 1, 5, 7)
}

// wantBuckets holds the buckets of an array that lead to entries against those that should.
func wantBuckets(t *testing.T, h *heap.Heap, buckets int, want ...int) {
	t.Helper()
	array := arrayOf(t, h, buckets)
	var found []int
	for i := range buckets {
		ref := field(t, h, array, i)
		if ref == 0 {
			continue
		}
		if kind, _, _, _ := h.Object(ref); kind != api.KindEntry {
			t.Errorf("bucket %d leads to an object of kind %d", i, kind)
		}
		found = append(found, i)
	}
	if !slices.Equal(found, want) {
		t.Errorf("of %d buckets %v hold entries, want %v", buckets, found, want)
	}
}

func TestP6_6_Delete(t *testing.T) {
	h := made(t, 20000)
	keys := []string{"", "a", "b", text(600), text(4096), "c"}
	m := tabled(t, h, 5, keys...)
	ref, _ := h.Alloc(99, 0, 100)
	wantPut(t, m, "b", ref, 0, 0, false, api.OK)
	for len(keys) > 0 {
		i := len(keys) / 2
		key := keys[i]
		keys = slices.Delete(keys, i, i+1)
		wantErrno(t, "Delete", m.Delete([]byte(key)), api.OK)
		wantGet(t, m, key, 0, 0, 0, api.ErrTableNone)
		wantErrno(t, "Delete", m.Delete([]byte(key)), api.ErrTableNone)
		wantKeys(t, m, 5, keys...)
	}
	wantShape(t, m, 0, 4, 0, 0)
	wantUsed(t, h, 12, 0, 1)
}

func TestP6_6_NoSuchKey(t *testing.T) {
	h := made(t, 20000)
	m := tabled(t, h, 1, "a", "b")
	before := stateOf(h)
	for _, key := range []string{"", "c", "aa", "a\x00", text(4096), text(4097), text(100000)} {
		wantErrno(t, "Delete", m.Delete([]byte(key)), api.ErrTableNone)
	}
	wantState(t, "a Delete of no key", h, before)
	for _, n := range []int{1, 4096, 4097, 5000} {
		u := tabled(t, h, 1, counted(33)...)
		wantShape(t, u, 33, 64, 32, 0)
		wantErrno(t, "Delete", u.Delete([]byte(text(n))), api.ErrTableNone)
		wantShape(t, u, 33, 64, 32, 16) // the step has been made all the same
		wantErrno(t, "Delete", u.Delete([]byte(text(n))), api.ErrTableNone)
		wantShape(t, u, 33, 64, 0, 0)
		u.Close()
	}
}

// TestP6_6_Shrinks tells at which Len a rehash to half as many begins.
func TestP6_6_Shrinks(t *testing.T) {
	h := made(t, 1<<17)
	keys := counted(520)
	m := tabled(t, h, 2, keys...)
	for m.Step() {
	}
	buckets, old, moved := 1024, 0, 0
	for i, key := range keys {
		if old > 0 {
			if moved += 16; moved >= old {
				old, moved = 0, 0
			}
		}
		wantErrno(t, "Delete", m.Delete([]byte(key)), api.OK)
		if left := 519 - i; old == 0 && buckets > 4 && 4*left < buckets {
			buckets, old = buckets/2, buckets
		}
		wantShape(t, m, 519-i, buckets, old, moved)
	}
	for m.Step() {
	}
	wantShape(t, m, 0, 4, 0, 0)
	wantUsed(t, h, 12, 0, 1)
}

// TestP6_6_OnlyADeleteThatFindsItsKeyShrinks: with few keys left no other call begins a rehash.
func TestP6_6_OnlyADeleteThatFindsItsKeyShrinks(t *testing.T) {
	h := made(t, 4000)
	m := tabled(t, h, 2, counted(5)...)
	for _, key := range []string{"0", "1", "2", "3"} {
		wantErrno(t, "Delete", m.Delete([]byte(key)), api.OK)
	}
	wantShape(t, m, 1, 4, 8, 0)
	m = tabled(t, h, 2, counted(9)...)
	for _, key := range []string{"0", "1", "2", "3", "4"} {
		wantErrno(t, "Delete", m.Delete([]byte(key)), api.OK)
	}
	wantShape(t, m, 4, 16, 0, 0) // four times 4 is not below 16
	wantErrno(t, "Delete", m.Delete([]byte("5")), api.OK)
	wantShape(t, m, 3, 8, 16, 0)
	wantErrno(t, "Delete", m.Delete([]byte("6")), api.OK)
	wantShape(t, m, 2, 8, 0, 0) // two times 4 is 8
	wantErrno(t, "Delete", m.Delete([]byte("7")), api.OK)
	wantShape(t, m, 1, 4, 8, 0)
	wantErrno(t, "Delete", m.Delete([]byte("8")), api.OK)
	wantShape(t, m, 0, 4, 0, 0)
}

// TestP6_6_NoRoomToShrink: the key goes all the same, and a later Delete that finds its key tries anew.
func TestP6_6_NoRoomToShrink(t *testing.T) {
	h := made(t, 500)
	keys := counted(17)
	m := tabled(t, h, 2, keys...)
	for _, key := range keys[:9] {
		wantErrno(t, "Delete", m.Delete([]byte(key)), api.OK)
	}
	wantShape(t, m, 8, 32, 0, 0)
	var handles []int
	for _, s := range []int{60, 60, 10} { // beside 1 + 6 + 33 + 80 = 120 words of 250
		ref, e := h.Alloc(99, 0, s-1)
		wantErrno(t, "Alloc", e, api.OK)
		handle, _ := h.Root(ref)
		handles = append(handles, handle)
	}
	wantErrno(t, "Delete", m.Delete([]byte(keys[9])), api.OK) // 10 words come free, the array of 16 buckets needs 17
	wantShape(t, m, 7, 32, 0, 0)
	for _, handle := range handles {
		h.Drop(handle)
	}
	wantErrno(t, "Delete", m.Delete([]byte("x")), api.ErrTableNone)
	wantPut(t, m, keys[10], 0, 0, 0, false, api.OK)
	wantPut(t, m, keys[9], 0, 0, 0, true, api.OK)
	wantShape(t, m, 8, 32, 0, 0)
	wantErrno(t, "Delete", m.Delete([]byte(keys[9])), api.OK)
	wantShape(t, m, 7, 16, 32, 0)
	wantKeys(t, m, 2, keys[10:]...)
	wantErrno(t, "Delete", m.Delete([]byte(keys[16])), api.OK)
	wantShape(t, m, 6, 16, 32, 16)
	wantKeys(t, m, 2, keys[10:16]...)
}

// TestP6_6_NoRehashWithinARehash: with far too many buckets a second one waits for the first to end.
func TestP6_6_NoRehashWithinARehash(t *testing.T) {
	h := made(t, 8000)
	keys := counted(65)
	m := tabled(t, h, 2, keys...)
	for m.Step() {
	}
	for len(keys) > 32 {
		wantErrno(t, "Delete", m.Delete([]byte(keys[0])), api.OK)
		keys = keys[1:]
	}
	for len(keys) > 10 {
		handle := squeeze(t, h, 20) // with the key's words 30, the array is a block of 66
		wantErrno(t, "Delete", m.Delete([]byte(keys[0])), api.OK)
		keys = keys[1:]
		wantShape(t, m, len(keys), 128, 0, 0)
		h.Drop(handle)
	}
	for i := range 8 {
		wantErrno(t, "Delete", m.Delete([]byte(keys[0])), api.OK)
		keys = keys[1:]
		wantShape(t, m, len(keys), 64, 128, 16*i)
		wantKeys(t, m, 2, keys...)
	}
	wantErrno(t, "Delete", m.Delete([]byte(keys[0])), api.OK)
	wantShape(t, m, 1, 32, 64, 0)
	wantKeys(t, m, 2, keys[1:]...)
}

// rehashing is a table with a rehash on, and its keys.
func rehashing(t *testing.T, h *heap.Heap, seed uint64, n int) (*table.Table, []string) {
	t.Helper()
	keys := counted(n)
	m := tabled(t, h, seed, keys...)
	if m.Shape().Old == 0 {
		t.Fatalf("behind %d keys no rehash is on", n)
	}
	return m, keys
}

func TestP6_7_StepWhereNoRehashIsOn(t *testing.T) {
	h := made(t, 4000)
	m := tabled(t, h, 1)
	for i, key := range counted(12) {
		for m.Step() {
		}
		before := stateOf(h)
		if m.Step() || m.Step() {
			t.Error("Step tells of a rehash where none is on")
		}
		wantState(t, "Step", h, before)
		if s := m.Shape(); s.Old != 0 || s.Moved != 0 || s.Len != i {
			t.Errorf("Shape = %+v with %d keys and no rehash on", s, i)
		}
		wantPut(t, m, key, 0, 0, 0, true, api.OK)
	}
}

// TestP6_7_StepByStep: each step moves 16 old buckets, or those that are left, and nothing but the step collects or allocates.
func TestP6_7_StepByStep(t *testing.T) {
	for _, c := range []struct{ keys, buckets, old, steps int }{{5, 8, 4, 1}, {9, 16, 8, 1}, {17, 32, 16, 1}, {33, 64, 32, 2}, {65, 128, 64, 4}, {129, 256, 128, 8}, {257, 512, 256, 16}} {
		h := made(t, 1<<16)
		m, keys := rehashing(t, h, 4, c.keys)
		h.Collect()
		before := h.Stats()
		for i := range c.steps {
			wantShape(t, m, c.keys, c.buckets, c.old, 16*i)
			wantKeys(t, m, 4, keys...)
			if !m.Step() {
				t.Errorf("%d keys: step %d is none", c.keys, i)
			}
		}
		wantShape(t, m, c.keys, c.buckets, 0, 0)
		wantKeys(t, m, 4, keys...)
		if m.Step() {
			t.Errorf("%d keys: there are more than %d steps", c.keys, c.steps)
		}
		if got := h.Stats(); got != before {
			t.Errorf("the steps changed Stats from %+v to %+v", before, got)
		}
	}
}

func TestP6_7_StepByStepToFewer(t *testing.T) {
	h := made(t, 1<<16)
	m, keys := rehashing(t, h, 4, 257)
	for m.Step() {
	}
	for len(keys) > 127 {
		wantErrno(t, "Delete", m.Delete([]byte(keys[0])), api.OK)
		keys = keys[1:]
	}
	for i := range 32 {
		wantShape(t, m, 127, 256, 512, 16*i)
		wantKeys(t, m, 4, keys...)
		if !m.Step() {
			t.Errorf("step %d is none", i)
		}
	}
	wantShape(t, m, 127, 256, 0, 0)
	wantKeys(t, m, 4, keys...)
}

// TestP6_7_MovedBucketsAreEmpty looks at the old array between the steps.
func TestP6_7_MovedBucketsAreEmpty(t *testing.T) {
	h := made(t, 4000)
	m := tabled(t, h, 4)
	for i := range uint64(33) {
		wantPut(t, m, hashed(4, i%32<<59, i), 0, 0, 0, true, api.OK)
	}
	wantShape(t, m, 33, 64, 32, 0)
	var all []int
	for i := range 32 {
		all = append(all, i)
	}
	wantBuckets(t, h, 32, all...)
	wantErrno(t, "Delete", m.Delete([]byte("x")), api.ErrTableNone)
	wantShape(t, m, 33, 64, 32, 16)
	wantBuckets(t, h, 32, all[16:]...)
	m.Step()
	wantUsed(t, h, 1+6+33*11, 66, 1) // the old array is gone
}

// TestP6_7_AStepIsMadeByPutAndDelete, and by no other call.
func TestP6_7_AStepIsMadeByPutAndDelete(t *testing.T) {
	h := made(t, 1<<14)
	m, keys := rehashing(t, h, 4, 129)
	for i, call := range []func(){
		func() { m.Put([]byte("new"), 0, 0, 0) },
		func() { m.Put([]byte("0"), 0, 0, 0) },
		func() { m.Delete([]byte("new")) },
		func() { m.Delete([]byte("none")) },
		func() { m.Delete(make([]byte, 5000)) },
		func() { m.Step() },
	} {
		call()
		moved := 16 * (i + 1)
		if s := m.Shape(); s.Old != 128 || s.Moved != moved {
			t.Errorf("call %d leaves %+v, want Moved %d", i, s, moved)
		}
		before := stateOf(h)
		m.Get([]byte("0"))
		m.Get([]byte("none"))
		m.Scan(0, 5)
		m.Put(make([]byte, 5000), 0, 0, 0)
		m.Put([]byte("0"), 1<<40, 0, 0)
		wantKeys(t, m, 4, withNew(keys, m)...)
		wantState(t, "calls that make no step", h, before)
	}
}

// withNew tells the keys that the table should have while "new" comes and goes.
func withNew(keys []string, m *table.Table) []string {
	if m.Len() > len(keys) {
		return append(slices.Clone(keys), "new")
	}
	return keys
}

// TestP6_7_PutsAndDeletesWhileARehashIsOn: keys of moved buckets and of others come, change and go.
func TestP6_7_PutsAndDeletesWhileARehashIsOn(t *testing.T) {
	for _, shrinking := range []bool{false, true} {
		for _, top := range []uint64{0, 15, 16, 17, 31, 32, 33, 100, 127} {
			h := made(t, 1<<15)
			m, keys := rehashing(t, h, 4, 129)
			if shrinking {
				for m.Step() {
				}
				for len(keys) > 63 {
					wantErrno(t, "Delete", m.Delete([]byte(keys[0])), api.OK)
					keys = keys[1:]
				}
				wantShape(t, m, 63, 128, 256, 0)
			}
			key := hashed(4, top<<57+12345, top)
			for i := 0; m.Shape().Old > 0; i++ {
				wantPut(t, m, key, 0, uint64(i), 1, true, api.OK)
				wantGet(t, m, key, 0, uint64(i), 1, api.OK)
				wantKeys(t, m, 4, append(slices.Clone(keys), key)...)
				wantPut(t, m, key, 0, uint64(i), 2, false, api.OK)
				wantGet(t, m, key, 0, uint64(i), 2, api.OK)
				wantErrno(t, "Delete", m.Delete([]byte(key)), api.OK)
				wantGet(t, m, key, 0, 0, 0, api.ErrTableNone)
				wantKeys(t, m, 4, keys...)
			}
		}
	}
}
