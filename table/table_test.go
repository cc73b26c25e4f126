package table_test

import (
	"bytes"
	"slices"
	"testing"

	"larder/api"
	"larder/heap"
	"larder/table"
	"larder/word"
)

const (
	least, most = -1 << 63, 1<<63 - 1
	slot0       = uint64(1) << 63 // the ref of the object in slot 0
)

func made(t *testing.T, limit int) *heap.Heap {
	t.Helper()
	h, e := heap.New(limit)
	if e != api.OK || h == nil {
		t.Fatalf("heap.New(%d): %d", limit, e)
	}
	return h
}

// tabled makes an open table of those keys: the first has the values 0, 1, 100, the second 0, 2, 200 and so on.
func tabled(t *testing.T, h *heap.Heap, seed uint64, keys ...string) *table.Table {
	t.Helper()
	m, e := table.New(h, seed)
	if e != api.OK || m == nil {
		t.Fatalf("New: %d", e)
	}
	for i, key := range keys {
		wantPut(t, m, key, 0, uint64(i+1), uint64(100*(i+1)), true, api.OK)
	}
	return m
}

// text is n bytes, none of them 0.
func text(n int) string {
	b := make([]byte, n)
	for i := range b {
		b[i] = byte(1 + i%251)
	}
	return string(b)
}

// words tells how many words the blob of a key of n bytes takes.
func words(n int) int { return 2 + word.Words(n) }

// mix is Mix of P1.11, and unmix its inverse.
func mix(x uint64) uint64 {
	x ^= x >> 32
	x *= 0xd6a5c39b71e4f28d
	x ^= x >> 29
	x *= 0xb34f6e1d9c2a7585
	return x ^ x>>32
}

func unmix(x uint64) uint64 {
	x ^= x >> 32
	x *= inverse(0xb34f6e1d9c2a7585)
	x ^= x>>29 ^ x>>58
	x *= inverse(0xd6a5c39b71e4f28d)
	return x ^ x>>32
}

// inverse tells what an odd number is to be multiplied with to come to 1.
func inverse(x uint64) uint64 {
	y := x
	for range 6 {
		y *= 2 - x*y
	}
	return y
}

// hashed makes a key of 16 bytes that has that hash; for each n it is another one.
func hashed(seed, hash, n uint64) string {
	b, _ := word.Unpack([]uint64{n, unmix(hash) ^ mix(mix(seed+16)^n)}, 16)
	return string(b)
}

func TestHashedKeys(t *testing.T) {
	for _, hash := range []uint64{0, 1, 1 << 62, 1<<64 - 1} {
		for n := range uint64(3) {
			if got := word.Hash(7, []byte(hashed(7, hash, n))); got != hash {
				t.Fatalf("the hash of a key for %#x is %#x", hash, got)
			}
		}
	}
}

func wantErrno(t *testing.T, what string, got, want api.Errno) {
	t.Helper()
	if got != want {
		t.Errorf("%s: error %d, want %d", what, got, want)
	}
}

func wantPut(t *testing.T, m *table.Table, key string, ref, a, b uint64, added bool, want api.Errno) {
	t.Helper()
	if got, e := m.Put([]byte(key), ref, a, b); got != added || e != want {
		t.Fatalf("Put(%.40q): %v, %d, want %v, %d", key, got, e, added, want)
	}
}

func wantGet(t *testing.T, m *table.Table, key string, ref, a, b uint64, want api.Errno) {
	t.Helper()
	if r, x, y, e := m.Get([]byte(key)); r != ref || x != a || y != b || e != want {
		t.Fatalf("Get(%.40q): %d, %d, %d, %d, want %d, %d, %d, %d", key, r, x, y, e, ref, a, b, want)
	}
}

func wantShape(t *testing.T, m *table.Table, length, buckets, old, moved int) {
	t.Helper()
	if got, want := m.Shape(), (api.TableShape{Len: length, Buckets: buckets, Old: old, Moved: moved}); got != want {
		t.Fatalf("Shape = %+v, want %+v", got, want)
	}
	if got := m.Len(); got != length {
		t.Fatalf("Len = %d, want %d", got, length)
	}
}

// byHash tells keys in hash order.
func byHash(seed uint64, keys []string) []string {
	list := slices.Clone(keys)
	slices.SortFunc(list, func(a, b string) int {
		x, y := word.Hash(seed, []byte(a)), word.Hash(seed, []byte(b))
		if x != y {
			if x < y {
				return -1
			}
			return 1
		}
		return bytes.Compare([]byte(a), []byte(b))
	})
	return list
}

// scanned tells by P6.9's words what Scan is to answer.
func scanned(seed, cursor uint64, n int, keys []string) (uint64, []string) {
	var told []string
	for _, key := range byHash(seed, keys) {
		hash := word.Hash(seed, []byte(key))
		if hash < cursor {
			continue
		}
		if len(told) >= max(n, 1) && word.Hash(seed, []byte(told[len(told)-1])) != hash {
			return hash, told
		}
		told = append(told, key)
	}
	return 0, told
}

func wantScan(t *testing.T, m *table.Table, seed, cursor uint64, n int, keys []string) {
	t.Helper()
	next, told := scanned(seed, cursor, n, keys)
	got, list := m.Scan(cursor, n)
	if got != next || !slices.Equal(texts(list), told) {
		t.Fatalf("Scan(%#x, %d): %#x, %.200q, want %#x, %.200q", cursor, n, got, list, next, told)
	}
}

// wantKeys holds all that a table tells of its keys against those that it should have.
func wantKeys(t *testing.T, m *table.Table, seed uint64, keys ...string) {
	t.Helper()
	if got := m.Len(); got != len(keys) {
		t.Fatalf("Len = %d, want %d", got, len(keys))
	}
	if got, want := texts(m.Keys()), slices.Sorted(slices.Values(keys)); !slices.Equal(got, want) {
		t.Fatalf("Keys = %.200q, want %.200q", got, want)
	}
	if got, want := told(m), byHash(seed, keys); !slices.Equal(got, want) {
		t.Fatalf("All tells %.200q, want %.200q", got, want)
	}
	wantScan(t, m, seed, 0, most, keys)
	for _, key := range keys {
		if _, _, _, e := m.Get([]byte(key)); e != api.OK {
			t.Fatalf("Get(%.40q): %d", key, e)
		}
	}
}

// told ranges over All.
func told(m *table.Table) []string {
	var found []string
	for key := range m.All() {
		found = append(found, string(key))
	}
	return found
}

func texts(list [][]byte) []string {
	var found []string
	for _, b := range list {
		found = append(found, string(b))
	}
	return found
}

// wantUsed collects and holds what is left on the heap against the words that should be.
func wantUsed(t *testing.T, h *heap.Heap, used, large, roots int) {
	t.Helper()
	h.Collect()
	if s := h.Stats(); s.Used != used || s.Large != large || s.Roots != roots {
		t.Fatalf("behind a collection: Used %d, Large %d, Roots %d, want %d, %d, %d", s.Used, s.Large, s.Roots, used, large, roots)
	}
}

// state is all that a heap tells of itself without being changed.
type state struct {
	stats   api.HeapStats
	image   []uint64
	handles []uint64
}

func stateOf(h *heap.Heap) state {
	s := state{stats: h.Stats(), image: h.Image()}
	for n := 1; n <= s.stats.Roots+2; n++ {
		ref, _ := h.At(n)
		s.handles = append(s.handles, ref)
	}
	return s
}

func wantState(t *testing.T, what string, h *heap.Heap, want state) {
	t.Helper()
	got := stateOf(h)
	if got.stats != want.stats {
		t.Errorf("%s: Stats %+v, want %+v", what, got.stats, want.stats)
	}
	if !slices.Equal(got.image, want.image) || !slices.Equal(got.handles, want.handles) {
		t.Errorf("%s: the half or the handles hold other things than before", what)
	}
}

// shape is an object's kind and its numbers of fields.
type shape struct{ kind, refs, raws int }

// laid tells the small objects that there are, by their refs.
func laid(h *heap.Heap) map[uint64]shape {
	found := map[uint64]shape{}
	for at := 1; at < h.Stats().Used; {
		kind, refs, raws, _ := h.Object(uint64(at))
		found[uint64(at)] = shape{kind, refs, raws}
		at += 1 + refs + raws
	}
	return found
}

// arrayOf collects and tells the array of so many buckets, if it is a small one and the only one.
func arrayOf(t *testing.T, h *heap.Heap, buckets int) uint64 {
	t.Helper()
	h.Collect()
	array := uint64(0)
	for ref, s := range laid(h) {
		if s == (shape{api.KindBuckets, buckets, 0}) {
			if array != 0 {
				t.Fatalf("there are two arrays of %d buckets", buckets)
			}
			array = ref
		}
	}
	if array == 0 {
		t.Fatalf("there is no array of %d buckets", buckets)
	}
	return array
}

func field(t *testing.T, h *heap.Heap, ref uint64, i int) uint64 {
	t.Helper()
	v, e := h.Get(ref, i)
	if e != api.OK {
		t.Fatalf("Get(%#x, %d): %d", ref, i, e)
	}
	return v
}

func TestP6_1_New(t *testing.T) {
	h := made(t, 1000)
	m := tabled(t, h, 7)
	wantShape(t, m, 0, 4, 0, 0)
	wantKeys(t, m, 7)
	wantUsed(t, h, 12, 0, 1)
	u := tabled(t, h, 8, "a")
	wantKeys(t, m, 7)
	wantKeys(t, u, 8, "a")
	if m.Ref() == u.Ref() {
		t.Error("two tables are one")
	}
	wantUsed(t, h, 1+11+11+10, 0, 2)
}

func TestP6_1_HowATableLies(t *testing.T) {
	h := made(t, 2000)
	tabled(t, h, 7, "a", "b", "cdefghijk", "", "e")
	h.Collect()
	count := map[shape]int{}
	for _, s := range laid(h) {
		if s.kind == api.KindTable {
			s = shape{api.KindTable, s.refs + s.raws, 0} // which of its fields are refs is not said
		}
		count[s]++
	}
	if len(count) != 7 || count[shape{api.KindTable, 5, 0}] != 1 || count[shape{api.KindBuckets, 4, 0}] != 1 || count[shape{api.KindBuckets, 8, 0}] != 1 || count[shape{api.KindEntry, 3, 3}] != 5 {
		t.Errorf("the table's objects are %v", count)
	}
	if count[shape{api.KindBlob, 0, 2}] != 3 || count[shape{api.KindBlob, 0, 3}] != 1 || count[shape{api.KindBlob, 0, 1}] != 1 {
		t.Errorf("the keys' blobs are %v", count)
	}
}

func TestP6_1_RoomForTheObjectAndTheArray(t *testing.T) {
	for free := range 15 {
		h := made(t, 128)
		ref, e := h.Alloc(api.KindNode, 0, 62-free)
		if e != api.OK {
			t.Fatalf("Alloc: %d", e)
		}
		h.Root(ref)
		m, e := table.New(h, 1)
		if free >= 11 {
			if m == nil || e != api.OK {
				t.Errorf("%d words free: New: %d", free, e)
			}
			continue
		}
		if m != nil || e != api.ErrHeapFull {
			t.Errorf("%d words free: New: %d, want ErrHeapFull", free, e)
		}
		wantUsed(t, h, 64-free, 0, 1)
	}
}

// TestP6_1_NewBetweenCollections: a collection that comes between the table's object and its array leaves a table.
func TestP6_1_NewBetweenCollections(t *testing.T) {
	for filled := range 64 {
		h := made(t, 1000)
		for range filled {
			h.Alloc(api.KindNode, 0, 0)
		}
		m := tabled(t, h, uint64(filled))
		wantShape(t, m, 0, 4, 0, 0)
		wantPut(t, m, "a", 0, 1, 2, true, api.OK)
		wantKeys(t, m, uint64(filled), "a")
		wantUsed(t, h, 22, 0, 1)
	}
}

func TestP6_1_OpenAgain(t *testing.T) {
	h := made(t, 2000)
	m := tabled(t, h, 99, "a", "b")
	before := h.Stats()
	u, e := table.Open(h, m.Ref())
	if u == nil || e != api.OK {
		t.Fatalf("Open: %d", e)
	}
	before.Roots++
	if got := h.Stats(); got != before {
		t.Errorf("Open: Stats %+v, want %+v", got, before)
	}
	wantPut(t, u, "c", 0, 5, 6, true, api.OK)
	wantKeys(t, m, 99, "a", "b", "c")
	wantErrno(t, "Delete", m.Delete([]byte("a")), api.OK)
	wantKeys(t, u, 99, "b", "c")
	wantPut(t, m, "c", 0, 7, 8, false, api.OK)
	wantGet(t, u, "c", 0, 7, 8, api.OK)
	for _, key := range []string{"d", "e", "f"} {
		wantPut(t, m, key, 0, 0, 0, true, api.OK)
	}
	wantShape(t, u, 5, 8, 4, 0)
	if !u.Step() || m.Step() {
		t.Error("a step through one view is not seen through the other")
	}
	wantShape(t, m, 5, 8, 0, 0)
	h.Collect()
	if m.Ref() != u.Ref() {
		t.Errorf("one table lies at %#x and at %#x", m.Ref(), u.Ref())
	}
	m.Close()
	h.Collect()
	wantKeys(t, u, 99, "b", "c", "d", "e", "f")
	again, e := table.Open(h, u.Ref())
	wantErrno(t, "Open", e, api.OK)
	u.Close()
	wantUsed(t, h, 1+6+9+5*10, 0, 1)
	wantKeys(t, again, 99, "b", "c", "d", "e", "f")
}

func TestP6_1_NoTableAtThatRef(t *testing.T) {
	h := made(t, 4000)
	wantErrno(t, "Resize", h.Resize(1000), api.OK)
	m := tabled(t, h, 1, "a", text(600))
	collections := h.Stats().Collections
	refs := []uint64{0, m.Ref() + 1, slot0, slot0 + 1, 1 << 40, 1<<64 - 1}
	for at, s := range laid(h) {
		if s.kind != api.KindTable {
			refs = append(refs, at)
		}
	}
	for _, kind := range []int{api.KindTable - 1, api.KindTable + 1, api.KindList, api.KindEntry, 255} {
		ref, e := h.Alloc(kind, 2, 3)
		wantErrno(t, "Alloc", e, api.OK)
		refs = append(refs, ref)
	}
	if h.Stats().Collections != collections {
		t.Fatal("the heap has collected: the refs aren't right any more")
	}
	before := stateOf(h)
	for _, ref := range refs {
		if u, e := table.Open(h, ref); u != nil || e != api.ErrTableRef {
			t.Errorf("Open(%#x): %v, %d, want ErrTableRef", ref, u != nil, e)
		}
	}
	wantState(t, "Open of no table", h, before)
	h.Collect()
	gone := tabled(t, h, 1)
	ref := gone.Ref()
	gone.Close()
	h.Collect()
	if u, e := table.Open(h, ref); u != nil || e != api.ErrTableRef {
		t.Errorf("Open of a table that was collected: %d", e)
	}
}

func TestP6_1_OpenByAField(t *testing.T) {
	h := made(t, 2000)
	owner, _ := h.Alloc(200, 1, 0)
	handle, _ := h.Root(owner)
	m := tabled(t, h, 3, "a", "b")
	owner, _ = h.At(handle)
	wantErrno(t, "Set", h.Set(owner, 0, m.Ref()), api.OK)
	m.Close()
	h.Collect()
	owner, _ = h.At(handle)
	u, e := table.Open(h, field(t, h, owner, 0))
	wantErrno(t, "Open", e, api.OK)
	wantKeys(t, u, 3, "a", "b")
	u.Close()
	wantUsed(t, h, 1+2+11+20, 0, 1)
}

func TestP6_2_Close(t *testing.T) {
	h := made(t, 3000)
	m := tabled(t, h, 1, "a", "b", "c", "d", "e") // a rehash is on
	u, _ := table.Open(h, m.Ref())
	gone, _ := table.Open(h, m.Ref())
	all := m.All()
	m.Close()
	other, _ := h.Root(0) // takes the handle that m had
	m.Close()
	if _, e := h.At(other); e != api.OK {
		t.Error("a second Close drops somebody's handle")
	}
	h.Drop(other)
	ref, _ := h.Alloc(7, 0, 0)
	before := stateOf(h)
	for range 2 {
		wantShut(t, m, ref)
		for range all {
			t.Error("All tells of a closed table")
		}
		m.Close()
	}
	wantState(t, "calls of a closed table", h, before)
	wantShape(t, u, 5, 8, 4, 0)
	gone.Close()
	wantKeys(t, u, 1, "a", "b", "c", "d", "e")
	wantUsed(t, h, 1+6+9+5+50, 0, 1)
	u.Close()
	wantUsed(t, h, 1, 0, 0)
	wantShut(t, u, 0)
}

// wantShut holds the calls of a closed table against P6.2.
func wantShut(t *testing.T, m *table.Table, ref uint64) {
	t.Helper()
	if m.Ref() != 0 || m.Len() != 0 || m.Step() || m.Shape() != (api.TableShape{}) || len(m.Keys()) != 0 {
		t.Error("a closed table tells something")
	}
	for range m.All() {
		t.Error("All tells of a closed table")
	}
	for _, n := range []int{least, -1, 0, 1, most} {
		for _, cursor := range []uint64{0, 1, 1 << 63, 1<<64 - 1} {
			if next, list := m.Scan(cursor, n); next != 0 || len(list) != 0 {
				t.Errorf("Scan(%d, %d) of a closed table: %d, %q", cursor, n, next, list)
			}
		}
	}
	for _, key := range []string{"", "a", "x", text(4097)} {
		for _, r := range []uint64{0, ref, 1 << 40} {
			wantPut(t, m, key, r, 1, 2, false, api.ErrTableShut)
		}
		wantGet(t, m, key, 0, 0, 0, api.ErrTableShut)
		wantErrno(t, "Delete", m.Delete([]byte(key)), api.ErrTableShut)
	}
}

func TestP6_3_RefLeadsToTheTable(t *testing.T) {
	h := made(t, 2000)
	h.Alloc(api.KindNode, 0, 10)
	m := tabled(t, h, 4, "a")
	for range 3 {
		if kind, refs, raws, e := h.Object(m.Ref()); kind != api.KindTable || refs+raws != 5 || e != api.OK {
			t.Errorf("at Ref lies %d, %d, %d, %d", kind, refs, raws, e)
		}
		h.Collect()
		h.Resize(200)
	}
	if m.Ref() != 1 {
		t.Errorf("Ref = %d behind a collection, want 1", m.Ref())
	}
}

func TestP6_3_Len(t *testing.T) {
	h := made(t, 4000)
	m := tabled(t, h, 4)
	for i := range 60 {
		wantPut(t, m, text(i), 0, 0, 0, true, api.OK)
		wantPut(t, m, text(i/2), 0, 0, 0, false, api.OK)
		if m.Len() != i+1 {
			t.Fatalf("Len = %d, want %d", m.Len(), i+1)
		}
	}
	for i := range 60 {
		wantErrno(t, "Delete", m.Delete([]byte(text(i))), api.OK)
		wantErrno(t, "Delete", m.Delete([]byte(text(i))), api.ErrTableNone)
		if m.Len() != 59-i {
			t.Fatalf("Len = %d, want %d", m.Len(), 59-i)
		}
	}
}
