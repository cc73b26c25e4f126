package rank_test

import (
	"bytes"
	"cmp"
	"slices"
	"strconv"
	"testing"

	"larder/api"
	"larder/blob"
	"larder/heap"
	"larder/rank"
	"larder/table"
	"larder/word"
)

const (
	least, most = -1 << 63, 1<<63 - 1
	slot0       = uint64(1) << 63 // the ref of the object in slot 0
)

// member is what should be in a set: a text with its score, and the level of its node.
type member struct {
	text  string
	score int64
	level int
}

// order tells how two members stand to each other.
func order(a, b member) int {
	return cmp.Or(cmp.Compare(a.score, b.score), bytes.Compare([]byte(a.text), []byte(b.text)))
}

// ordered tells members in their order.
func ordered(list []member) []member {
	list = slices.Clone(list)
	slices.SortFunc(list, order)
	return list
}

func made(t *testing.T, limit int) *heap.Heap {
	t.Helper()
	h, e := heap.New(limit)
	if e != api.OK || h == nil {
		t.Fatalf("heap.New(%d): %d", limit, e)
	}
	return h
}

// ranked makes an open set of those members, put in one behind the other.
func ranked(t *testing.T, h *heap.Heap, seed uint64, list ...member) *rank.Rank {
	t.Helper()
	r, e := rank.New(h, seed)
	if e != api.OK || r == nil {
		t.Fatalf("New: %d", e)
	}
	for _, m := range list {
		wantAdd(t, r, m, true, api.OK)
	}
	return r
}

// text is n bytes, none of them 0.
func text(n int) string {
	b := make([]byte, n)
	for i := range b {
		b[i] = byte(1 + i%251)
	}
	return string(b)
}

// words tells how many words the blob of a member of n bytes takes.
func words(n int) int { return 2 + word.Words(n) }

func wantErrno(t *testing.T, what string, got, want api.Errno) {
	t.Helper()
	if got != want {
		t.Errorf("%s: error %d, want %d", what, got, want)
	}
}

func wantAdd(t *testing.T, r *rank.Rank, m member, added bool, want api.Errno) {
	t.Helper()
	if got, e := r.Add([]byte(m.text), m.score, m.level); got != added || e != want {
		t.Fatalf("Add(%.40q, %d, %d): %v, %d, want %v, %d", m.text, m.score, m.level, got, e, added, want)
	}
}

func wantRemove(t *testing.T, r *rank.Rank, text string, was bool, want api.Errno) {
	t.Helper()
	if got, e := r.Remove([]byte(text)); got != was || e != want {
		t.Fatalf("Remove(%.40q): %v, %d, want %v, %d", text, got, e, was, want)
	}
}

func wantScore(t *testing.T, r *rank.Rank, text string, score int64, there bool) {
	t.Helper()
	if got, ok := r.Score([]byte(text)); got != score || ok != there {
		t.Fatalf("Score(%.40q): %d, %v, want %d, %v", text, got, ok, score, there)
	}
}

func wantPlace(t *testing.T, r *rank.Rank, text string, place int, there bool) {
	t.Helper()
	if got, ok := r.Place([]byte(text)); got != place || ok != there {
		t.Fatalf("Place(%.40q): %d, %v, want %d, %v", text, got, ok, place, there)
	}
}

func wantBefore(t *testing.T, r *rank.Rank, score int64, text string, n int) {
	t.Helper()
	if got := r.Before(score, []byte(text)); got != n {
		t.Fatalf("Before(%d, %.40q) = %d, want %d", score, text, got, n)
	}
}

func wantBelow(t *testing.T, r *rank.Rank, score int64, also bool, n int) {
	t.Helper()
	if got := r.Below(score, also); got != n {
		t.Fatalf("Below(%d, %v) = %d, want %d", score, also, got, n)
	}
}

// wantSlice holds a Slice against members; their levels don't count.
func wantSlice(t *testing.T, r *rank.Rank, from, n int, want ...member) {
	t.Helper()
	got := r.Slice(from, n)
	if !slices.EqualFunc(got, want, same) {
		t.Fatalf("Slice(%d, %d) tells %d members, %.300q, want %d", from, n, len(got), texts(got), len(want))
	}
}

func same(got api.Scored, want member) bool {
	return string(got.Member) == want.text && got.Score == want.score
}

func texts(list []api.Scored) []string {
	var found []string
	for _, s := range list {
		found = append(found, string(s.Member)+" "+strconv.FormatInt(s.Score, 10))
	}
	return found
}

// wantSet holds all that a set tells against the members that it should have.
func wantSet(t *testing.T, r *rank.Rank, list ...member) {
	t.Helper()
	list = ordered(list)
	if got := r.Len(); got != len(list) {
		t.Fatalf("Len = %d, want %d", got, len(list))
	}
	wantSlice(t, r, 0, most, list...)
	lower, equal := 0, 0 // how many have a lesser score than that of the place, and how many the same
	for i, m := range list {
		if i > 0 && list[i-1].score != m.score {
			lower, equal = i, 0
		}
		if equal == 0 {
			for equal = 1; i+equal < len(list) && list[i+equal].score == m.score; equal++ {
			}
		}
		wantScore(t, r, m.text, m.score, true)
		wantPlace(t, r, m.text, i, true)
		wantBefore(t, r, m.score, m.text, i)
		wantBefore(t, r, m.score, m.text+"\x00", i+1)
		wantBelow(t, r, m.score, false, lower)
		wantBelow(t, r, m.score, true, lower+equal)
		wantSlice(t, r, i, 2, list[i:min(i+2, len(list))]...)
	}
	wantSlice(t, r, len(list), 1)
}

// wantUsed collects and holds what is left on the heap against the words that should be.
func wantUsed(t *testing.T, h *heap.Heap, used, large, roots int) {
	t.Helper()
	h.Collect()
	if s := h.Stats(); s.Used != used || s.Large != large || s.Roots != roots {
		t.Fatalf("behind a collection: Used %d, Large %d, Roots %d, want %d, %d, %d", s.Used, s.Large, s.Roots, used, large, roots)
	}
}

// state is all that a heap tells of itself without being changed.
type state struct {
	stats   api.HeapStats
	image   []uint64
	handles []uint64
}

func stateOf(h *heap.Heap) state {
	s := state{stats: h.Stats(), image: h.Image()}
	for n := 1; n <= s.stats.Roots+2; n++ {
		ref, _ := h.At(n)
		s.handles = append(s.handles, ref)
	}
	return s
}

func wantState(t *testing.T, what string, h *heap.Heap, want state) {
	t.Helper()
	got := stateOf(h)
	if got.stats != want.stats {
		t.Errorf("%s: Stats %+v, want %+v", what, got.stats, want.stats)
	}
	if !slices.Equal(got.image, want.image) || !slices.Equal(got.handles, want.handles) {
		t.Errorf("%s: the half or the handles hold other things than before", what)
	}
}

// shape is an object's kind and its numbers of fields.
type shape struct{ kind, refs, raws int }

func shapeOf(t *testing.T, h *heap.Heap, ref uint64) shape {
	t.Helper()
	kind, refs, raws, e := h.Object(ref)
	if e != api.OK {
		t.Fatalf("Object(%#x): %d", ref, e)
	}
	return shape{kind, refs, raws}
}

// laid tells the small objects that there are, by their refs.
func laid(h *heap.Heap) map[uint64]shape {
	found := map[uint64]shape{}
	for at := 1; at < h.Stats().Used; {
		kind, refs, raws, _ := h.Object(uint64(at))
		found[uint64(at)] = shape{kind, refs, raws}
		at += 1 + refs + raws
	}
	return found
}

func field(t *testing.T, h *heap.Heap, ref uint64, i int) uint64 {
	t.Helper()
	v, e := h.Get(ref, i)
	if e != api.OK {
		t.Fatalf("Get(%#x, %d): %d", ref, i, e)
	}
	return v
}

// tableOf opens the table of a set.
func tableOf(t *testing.T, h *heap.Heap, r *rank.Rank) *table.Table {
	t.Helper()
	scores, e := table.Open(h, field(t, h, r.Ref(), 0))
	if e != api.OK {
		t.Fatalf("at the root's ref 0 lies no table: %d", e)
	}
	return scores
}

// wantLaid holds a set's objects against the chapter's words on how it lies on the heap.
func wantLaid(t *testing.T, h *heap.Heap, r *rank.Rank, seed uint64, list ...member) {
	t.Helper()
	list = ordered(list)
	root := r.Ref()
	if got := shapeOf(t, h, root); got != (shape{api.KindRank, 10, 9}) {
		t.Fatalf("the root is %v", got)
	}
	if n := field(t, h, root, 10); n != uint64(len(list)) {
		t.Fatalf("the root tells %d members, want %d", n, len(list))
	}
	nodes := []uint64{root} // by where they stand
	for i, m := range list {
		node := field(t, h, nodes[i], 2)
		wantNode(t, h, node, m)
		nodes = append(nodes, node)
	}
	nodes = append(nodes, 0)
	for at, node := range nodes[:len(nodes)-1] {
		wantPointers(t, h, nodes, list, at)
		if at > 1 && field(t, h, node, 1) != nodes[at-1] {
			t.Fatalf("the node of place %d does not lead back to the one ahead", at-1)
		}
	}
	if len(list) > 0 && field(t, h, nodes[1], 1) != 0 {
		t.Fatal("the first node leads back to something")
	}
	last := nodes[len(list)]
	if len(list) == 0 {
		last = 0
	}
	if field(t, h, root, 1) != last {
		t.Fatal("the root does not lead to the last node")
	}
	wantTable(t, h, r, seed, list)
}

// wantNode holds a node's shape, member and score against a member.
func wantNode(t *testing.T, h *heap.Heap, node uint64, m member) {
	t.Helper()
	if got, want := shapeOf(t, h, node), (shape{api.KindTower, 2 + m.level, 1 + m.level}); got != want {
		t.Fatalf("the node of %.40q is %v, want %v", m.text, got, want)
	}
	if b, e := blob.Read(h, field(t, h, node, 0)); string(b) != m.text || e != api.OK {
		t.Fatalf("the node of %.40q has the member %.40q, %d", m.text, b, e)
	}
	if got := field(t, h, node, 2+m.level); got != uint64(m.score) {
		t.Fatalf("the node of %.40q has the score %#x, want %d", m.text, got, m.score)
	}
}

// wantPointers holds pointers and spans of what stands at a place (0 is the root) against the levels of those behind it.
func wantPointers(t *testing.T, h *heap.Heap, nodes []uint64, list []member, at int) {
	t.Helper()
	height := 8
	if at > 0 {
		height = list[at-1].level
	}
	for k := 1; k <= height; k++ {
		to := at + 1
		for to <= len(list) && list[to-1].level < k {
			to++
		}
		pointer, span := field(t, h, nodes[at], 1+k), field(t, h, nodes[at], 2+height+k)
		if pointer != nodes[to] || span != uint64(to-at) {
			t.Fatalf("the pointer of level %d at %d leads to %#x by %d, want %#x by %d", k, at, pointer, span, nodes[to], to-at)
		}
	}
}

// wantTable holds a set's table against the members.
func wantTable(t *testing.T, h *heap.Heap, r *rank.Rank, seed uint64, list []member) {
	t.Helper()
	scores := tableOf(t, h, r)
	defer scores.Close()
	if scores.Len() != len(list) {
		t.Fatalf("the table has %d keys, want %d", scores.Len(), len(list))
	}
	for _, m := range list {
		if ref, a, b, e := scores.Get([]byte(m.text)); ref != 0 || a != uint64(m.score) || b != 0 || e != api.OK {
			t.Fatalf("the table has %d, %d, %d, %d at %.40q, want 0, %d, 0", ref, a, b, e, m.text, m.score)
		}
	}
	last := uint64(0)
	for key := range scores.All() {
		hash := word.Hash(seed, key)
		if hash < last {
			t.Fatalf("the table has another seed than %d", seed)
		}
		last = hash
	}
}

func TestP7_1_New(t *testing.T) {
	h := made(t, 1000)
	r := ranked(t, h, 7)
	wantSet(t, r)
	wantLaid(t, h, r, 7)
	wantUsed(t, h, 1+20+11, 0, 2)
	q := ranked(t, h, 8, member{"a", 1, 3})
	wantSet(t, r)
	wantSet(t, q, member{"a", 1, 3})
	if r.Ref() == q.Ref() {
		t.Error("two sets are one")
	}
	wantUsed(t, h, 1+31+31+10+3+10, 0, 4)
}

// TestP7_1_TheTableComesFirst: New lays the table's objects down, then the root.
func TestP7_1_TheTableComesFirst(t *testing.T) {
	h := made(t, 1000)
	r := ranked(t, h, 7)
	if s := h.Stats(); s.Used != 32 || s.Collections != 0 || s.Roots != 2 {
		t.Errorf("Stats %+v behind New", s)
	}
	if r.Ref() != 12 {
		t.Errorf("the root lies at %d, want 12: behind the table's 11 words", r.Ref())
	}
}

func TestP7_1_TheSeedIsTheTables(t *testing.T) {
	list := []member{{"a", 1, 1}, {"b", 2, 2}, {"c", 3, 3}, {"d", 4, 4}, {"e", 5, 5}, {"f", 6, 6}, {"g", 7, 7}, {"h", 8, 8}}
	for _, seed := range []uint64{0, 1, 7, 1 << 63, 1<<64 - 1} {
		h := made(t, 4000)
		r := ranked(t, h, seed, list...)
		wantLaid(t, h, r, seed, list...)
	}
}

func TestP7_1_RoomForTableAndRoot(t *testing.T) {
	for free := range 40 {
		h := made(t, 128)
		ref, e := h.Alloc(api.KindNode, 0, 62-free)
		wantErrno(t, "Alloc", e, api.OK)
		h.Root(ref)
		r, e := rank.New(h, 1)
		if free >= 31 {
			if r == nil || e != api.OK {
				t.Errorf("%d words free: New: %d", free, e)
				continue
			}
			wantSet(t, r)
			wantUsed(t, h, 64-free+31, 0, 3)
			continue
		}
		if r != nil || e != api.ErrHeapFull {
			t.Errorf("%d words free: New: %d, want ErrHeapFull", free, e)
		}
		wantUsed(t, h, 64-free, 0, 1)
	}
}

// TestP7_1_NewBetweenCollections: a collection that comes between the table and the root leaves both.
func TestP7_1_NewBetweenCollections(t *testing.T) {
	for filled := range 64 {
		h := made(t, 1000)
		for range filled {
			h.Alloc(api.KindNode, 0, 0)
		}
		r := ranked(t, h, uint64(filled))
		wantLaid(t, h, r, uint64(filled))
		wantAdd(t, r, member{"a", 1, 2}, true, api.OK)
		wantSet(t, r, member{"a", 1, 2})
		wantUsed(t, h, 1+31+10+3+8, 0, 2)
	}
}

func TestP7_1_OpenAgain(t *testing.T) {
	h := made(t, 4000)
	a, b, c := member{"a", 5, 1}, member{"b", 4, 8}, member{"c", 3, 2}
	r := ranked(t, h, 99, a, b)
	before := h.Stats()
	q, e := rank.Open(h, r.Ref())
	if q == nil || e != api.OK {
		t.Fatalf("Open: %d", e)
	}
	before.Roots += 2
	if got := h.Stats(); got != before {
		t.Errorf("Open: Stats %+v, want %+v", got, before)
	}
	wantSet(t, q, a, b)
	wantAdd(t, q, c, true, api.OK)
	wantSet(t, r, a, b, c)
	wantRemove(t, r, "a", true, api.OK)
	wantSet(t, q, b, c)
	b.score = -1
	wantAdd(t, r, b, false, api.OK)
	wantSet(t, q, b, c)
	h.Collect()
	if r.Ref() != q.Ref() {
		t.Errorf("one set lies at %#x and at %#x", r.Ref(), q.Ref())
	}
	r.Close()
	h.Collect()
	wantSet(t, q, b, c)
	again, e := rank.Open(h, q.Ref())
	wantErrno(t, "Open", e, api.OK)
	q.Close()
	wantUsed(t, h, 1+31+2*(10+3)+20+8, 0, 2)
	wantSet(t, again, b, c)
	wantLaid(t, h, again, 99, b, c)
}

func TestP7_1_NoSetAtThatRef(t *testing.T) {
	h := made(t, 6000)
	wantErrno(t, "Resize", h.Resize(1000), api.OK)
	r := ranked(t, h, 1, member{"a", 1, 1}, member{text(600), 2, 8})
	collections := h.Stats().Collections
	refs := []uint64{0, r.Ref() + 1, slot0, slot0 + 1, slot0 + 9, 1 << 40, 1<<64 - 1}
	for at, s := range laid(h) {
		if s.kind != api.KindRank {
			refs = append(refs, at)
		}
	}
	for _, kind := range []int{api.KindRank - 1, api.KindRank + 1, api.KindTable, api.KindTower, 1, 255} {
		ref, e := h.Alloc(kind, 10, 9)
		wantErrno(t, "Alloc", e, api.OK)
		refs = append(refs, ref)
	}
	if h.Stats().Collections != collections {
		t.Fatal("the heap has collected: the refs aren't right any more")
	}
	before := stateOf(h)
	for _, ref := range refs {
		if q, e := rank.Open(h, ref); q != nil || e != api.ErrRankRef {
			t.Errorf("Open(%#x): %v, %d, want ErrRankRef", ref, q != nil, e)
		}
	}
	wantState(t, "Open of no set", h, before)
	h.Collect()
	gone := ranked(t, h, 1)
	ref := gone.Ref()
	gone.Close()
	h.Collect()
	if q, e := rank.Open(h, ref); q != nil || e != api.ErrRankRef {
		t.Errorf("Open of a set that was collected: %d", e)
	}
}

// TestP7_1_ARootOfSomebodyElse: nothing is promised of it, but that no handle is left and nothing panics.
func TestP7_1_ARootOfSomebodyElse(t *testing.T) {
	h := made(t, 1000)
	for _, s := range []shape{{api.KindRank, 10, 9}, {api.KindRank, 0, 0}, {api.KindRank, 0, 3}} {
		ref, e := h.Alloc(s.kind, s.refs, s.raws)
		wantErrno(t, "Alloc", e, api.OK)
		if q, e := rank.Open(h, ref); q != nil || e == api.OK || h.Stats().Roots != 0 {
			t.Errorf("Open of a root without a table: %v, %d, %d handles", q != nil, e, h.Stats().Roots)
		}
	}
}

func TestP7_1_OpenByAField(t *testing.T) {
	h := made(t, 2000)
	a, b := member{"a", 2, 3}, member{"b", 1, 4}
	owner, _ := h.Alloc(200, 1, 0)
	handle, _ := h.Root(owner)
	r := ranked(t, h, 3, a, b)
	owner, _ = h.At(handle)
	wantErrno(t, "Set", h.Set(owner, 0, r.Ref()), api.OK)
	r.Close()
	h.Collect()
	owner, _ = h.At(handle)
	q, e := rank.Open(h, field(t, h, owner, 0))
	wantErrno(t, "Open", e, api.OK)
	wantSet(t, q, a, b)
	q.Close()
	wantUsed(t, h, 1+2+31+2*13+10+12, 0, 1)
}

// TestP7_2_AnOpenSetLives through collections and resizes, also while other things come and go.
func TestP7_2_AnOpenSetLives(t *testing.T) {
	h := made(t, 40000)
	list := []member{{"a", 2, 1}, {text(4096), 2, 8}, {"", -7, 3}, {text(497), 1 << 62, 2}, {text(496), -1 << 63, 5}}
	r := ranked(t, h, 5, list...)
	for i := range 20 {
		h.Alloc(9, 3, 50*i)
		if i%3 == 0 {
			h.Resize(300 + 100*i)
		}
		h.Collect()
		wantSet(t, r, list...)
		wantLaid(t, h, r, 5, list...)
		if got := shapeOf(t, h, r.Ref()); got.kind != api.KindRank {
			t.Errorf("at Ref lies %v", got)
		}
	}
}

func TestP7_2_Close(t *testing.T) {
	h := made(t, 3000)
	list := []member{{"a", 2, 1}, {"b", 2, 2}, {"c", 1, 3}, {"d", 5, 8}, {"e", 0, 1}}
	r := ranked(t, h, 1, list...) // its table's rehash is on
	q, _ := rank.Open(h, r.Ref())
	gone, _ := rank.Open(h, r.Ref())
	if n := h.Stats().Roots; n != 6 {
		t.Errorf("three open ones take %d handles", n)
	}
	r.Close()
	if n := h.Stats().Roots; n != 4 {
		t.Errorf("two open ones take %d handles", n)
	}
	one, _ := h.Root(0) // these take the handles that r had
	two, _ := h.Root(0)
	before := stateOf(h)
	for range 2 {
		wantShut(t, r)
		r.Close()
	}
	wantState(t, "calls of a closed set", h, before)
	h.Drop(one)
	h.Drop(two)
	wantSet(t, q, list...)
	gone.Close()
	wantSet(t, q, list...)
	wantLaid(t, h, q, 1, list...)
	wantUsed(t, h, 1+20+6+9+5+5*(10+3)+20+2*15, 0, 2)
	q.Close()
	wantUsed(t, h, 1, 0, 0)
	wantShut(t, q)
}

// wantShut holds the calls of a closed set against P7.2.
func wantShut(t *testing.T, r *rank.Rank) {
	t.Helper()
	if r.Ref() != 0 || r.Len() != 0 {
		t.Error("a closed set tells something")
	}
	for _, text := range []string{"", "a", "x", text(4097)} {
		for _, score := range []int64{least, -1, 0, 2, most} {
			for _, level := range []int{least, -1, 0, 1, 8, 9, most} {
				wantAdd(t, r, member{text, score, level}, false, api.ErrRankShut)
			}
			wantBefore(t, r, score, text, 0)
			wantBelow(t, r, score, false, 0)
			wantBelow(t, r, score, true, 0)
		}
		wantRemove(t, r, text, false, api.ErrRankShut)
		wantScore(t, r, text, 0, false)
		wantPlace(t, r, text, 0, false)
	}
	for _, from := range []int{least, -1, 0, 1, most} {
		for _, n := range []int{least, -1, 0, 1, most} {
			wantSlice(t, r, from, n)
		}
	}
}
