package rank_test

import (
	"slices"
	"strconv"
	"testing"

	"larder/api"
	"larder/heap"
	"larder/rank"
)

// load is what is live on a heap, in words: the small objects (word 0 with them) and the blocks of the large ones.
type load struct{ limit, small, large int }

// add tells the load with one object of s words more, and whether the heap has room for it (P3.9).
func (d load) add(s int) (load, bool) {
	if s <= api.LargeWords {
		d.small += s
		return d, d.small <= (d.limit-d.large)/2
	}
	d.large += s + 1
	return d, d.large+2*max(api.MinHalf, d.small) <= d.limit
}

// addAll adds objects one behind the other, and tells how many of them find room: the first that finds none ends it.
func (d load) addAll(sizes ...int) (load, int) {
	for i, s := range sizes {
		next, room := d.add(s)
		if !room {
			return d, i
		}
		d = next
	}
	return d, len(sizes)
}

// pieces tells what a member that is new takes, in the order in which it is laid down.
func pieces(m member) []int {
	return []int{words(len(m.text)), 4 + 2*m.level, words(len(m.text)), 7}
}

// counted tells n members: the texts are numbers, the scores stand the other way round, the levels are mixed.
func counted(n int) []member {
	var list []member
	for i := range n {
		list = append(list, member{strconv.Itoa(i), int64(n - i), 1 + i*5%8})
	}
	return list
}

// squeeze lays a block beside what is live, so that small objects of just so many words find room, and tells its handle.
func squeeze(t *testing.T, h *heap.Heap, words int) int {
	t.Helper()
	h.Collect()
	s := h.Stats()
	free := s.Limit - s.Large - 2*max(s.Used+words, api.MinHalf)
	ref, e := h.Alloc(99, 0, free-2)
	if e != api.OK {
		t.Fatalf("Alloc of a block of %d words: %d", free, e)
	}
	handle, e := h.Root(ref)
	wantErrno(t, "Root", e, api.OK)
	return handle
}

// wantRehash holds the shape of a set's table against what it should be.
func wantRehash(t *testing.T, h *heap.Heap, r *rank.Rank, length, buckets, old, moved int) {
	t.Helper()
	scores := tableOf(t, h, r)
	defer scores.Close()
	if got, want := scores.Shape(), (api.TableShape{Len: length, Buckets: buckets, Old: old, Moved: moved}); got != want {
		t.Fatalf("the table's shape is %+v, want %+v", got, want)
	}
}

func TestP7_3_Add(t *testing.T) {
	h := made(t, 30000)
	r := ranked(t, h, 5)
	var list []member
	for i, n := range []int{0, 1, 7, 8, 9, 496, 497, 4095, 4096} {
		m := member{text(n), int64(i * 37 % 5), 1 + i%8}
		wantAdd(t, r, m, true, api.OK)
		list = append(list, m)
		wantSet(t, r, list...)
		wantLaid(t, h, r, 5, list...)
	}
	h.Collect()
	wantSet(t, r, list...)
	wantLaid(t, h, r, 5, list...)
}

// TestP7_3_EveryPlaceAndLevel: a member comes in at each place of a set of all levels, with each level.
func TestP7_3_EveryPlaceAndLevel(t *testing.T) {
	h := made(t, 1<<16)
	var list []member
	for i, level := range []int{3, 1, 8, 2, 1, 5, 8, 1, 4} {
		list = append(list, member{string(rune('a' + i)), int64(2 * i), level})
	}
	for place := range len(list) + 1 {
		for level := 1; level <= 8; level++ {
			r := ranked(t, h, 5, list...)
			m := member{"new", int64(2*place - 1), level}
			wantAdd(t, r, m, true, api.OK)
			wantSet(t, r, append(slices.Clone(list), m)...)
			wantLaid(t, h, r, 5, append(slices.Clone(list), m)...)
			wantPlace(t, r, "new", place, true)
			wantRemove(t, r, "new", true, api.OK)
			wantSet(t, r, list...)
			wantLaid(t, h, r, 5, list...)
			r.Close()
		}
	}
}

func TestP7_3_ScoresAtTheirBounds(t *testing.T) {
	h := made(t, 4000)
	var list []member
	r := ranked(t, h, 5)
	for i, score := range []int64{0, most, least, -1, 1, most - 1, least + 1, most, least, 0} {
		m := member{string(rune('z' - i)), score, 1 + i%8}
		wantAdd(t, r, m, true, api.OK)
		list = append(list, m)
		wantSet(t, r, list...)
		wantLaid(t, h, r, 5, list...)
	}
}

// TestP7_3_MembersOfOneScore stand by their bytes.
func TestP7_3_MembersOfOneScore(t *testing.T) {
	h := made(t, 8000)
	names := []string{"b", "", "\xff", "a", "\x00", "abcdefgh", "a\x00", "abcdefg", "\x00\x00", "abcdefgh\x00", "A", "\x80", "\x7f", "abcdefghi", "\xff\xff"}
	var list []member
	r := ranked(t, h, 5)
	for i, name := range names {
		m := member{name, -3, 1 + i*3%8}
		wantAdd(t, r, m, true, api.OK)
		list = append(list, m)
		wantSet(t, r, list...)
	}
	wantLaid(t, h, r, 5, list...)
	slices.Sort(names)
	for i, name := range names {
		wantPlace(t, r, name, i, true)
	}
}

// TestP7_3_TheVeryScoreAgain: nothing is done, whatever the level, also while the table's rehash is on.
func TestP7_3_TheVeryScoreAgain(t *testing.T) {
	h := made(t, 4000)
	list := counted(33)
	r := ranked(t, h, 5, list...)
	wantRehash(t, h, r, 33, 64, 32, 0)
	before := stateOf(h)
	for _, m := range list {
		for level := 1; level <= 8; level++ {
			wantAdd(t, r, member{m.text, m.score, level}, false, api.OK)
		}
	}
	wantState(t, "Add of what is there", h, before)
	wantLaid(t, h, r, 5, list...)
	handle := squeeze(t, h, 0)
	wantAdd(t, r, list[7], false, api.OK)
	h.Drop(handle)
}

// TestP7_3_AnotherScore moves each member to each place, with each level.
func TestP7_3_AnotherScore(t *testing.T) {
	h := made(t, 1<<16)
	var list []member
	for i, level := range []int{2, 1, 8, 3, 1, 5} {
		list = append(list, member{string(rune('a' + i)), int64(10 * i), level})
	}
	for i := range list {
		r := ranked(t, h, 5, list...)
		now := slices.Clone(list)
		for place := range len(list) + 1 {
			for _, level := range []int{1, 3, 8, list[i].level} {
				now[i] = member{list[i].text, int64(10*place - 5 + level - 4), level}
				wantAdd(t, r, now[i], false, api.OK)
				wantSet(t, r, now...)
				wantLaid(t, h, r, 5, now...)
			}
		}
		for _, score := range []int64{most, least, 0} {
			now[i].score = score
			wantAdd(t, r, now[i], false, api.OK)
			wantSet(t, r, now...)
			wantLaid(t, h, r, 5, now...)
		}
		r.Close()
	}
}

func TestP7_3_TheOnlyMemberMoves(t *testing.T) {
	h := made(t, 1000)
	r := ranked(t, h, 5, member{"a", 1, 3})
	for level := 1; level <= 8; level++ {
		m := member{"a", int64(-level), level}
		wantAdd(t, r, m, false, api.OK)
		wantSet(t, r, m)
		wantLaid(t, h, r, 5, m)
		wantUsed(t, h, 1+31+10+3+4+2*level, 0, 2)
	}
}

func TestP7_3_WrongArguments(t *testing.T) {
	h := made(t, 4000)
	list := counted(33)
	r := ranked(t, h, 5, list...)
	before := stateOf(h)
	for _, level := range []int{least, -1, 0, 9, 10, most} {
		for _, text := range []string{"", "x", "7", text(4097), text(9000)} {
			wantAdd(t, r, member{text, 26, level}, false, api.ErrRankLevel)
		}
	}
	for _, level := range []int{1, 8} {
		for _, n := range []int{4097, 4098, 9000} {
			wantAdd(t, r, member{text(n), 26, level}, false, api.ErrRankLong)
		}
	}
	wantState(t, "refused Adds", h, before)
	wantSet(t, r, list...)
	wantLaid(t, h, r, 5, list...)
}

// TestP7_3_WhatIsAllocated looks at what lies behind the former end of the half: a new member's blob, its node, the key's blob, the entry, then the table's array; for one that is moved a node alone.
func TestP7_3_WhatIsAllocated(t *testing.T) {
	h := made(t, 8000)
	wantErrno(t, "Resize", h.Resize(3000), api.OK)
	r := ranked(t, h, 5)
	collections := h.Stats().Collections
	for i := range 40 {
		m := member{text(i * 3), int64(i * 7 % 11), 1 + i%8}
		buckets := bucketsOf(t, h, r)
		used := h.Stats().Used
		wantAdd(t, r, m, true, api.OK)
		key := shape{api.KindBlob, 0, words(i*3) - 1}
		want := []shape{key, {api.KindTower, 2 + m.level, 1 + m.level}, key, {api.KindEntry, 3, 3}}
		if now := bucketsOf(t, h, r); now > buckets && now < 64 {
			want = append(want, shape{api.KindBuckets, now, 0})
		}
		wantBehind(t, h, used, want...)
		used = h.Stats().Used
		m.score, m.level = int64(i*5%11-20), 8-i%8
		wantAdd(t, r, m, false, api.OK)
		wantBehind(t, h, used, shape{api.KindTower, 2 + m.level, 1 + m.level})
	}
	if h.Stats().Collections > collections+1 { // one came with the first large array
		t.Fatal("the heap has collected")
	}
}

// bucketsOf tells how many buckets a set's table has.
func bucketsOf(t *testing.T, h *heap.Heap, r *rank.Rank) int {
	t.Helper()
	scores := tableOf(t, h, r)
	defer scores.Close()
	return scores.Shape().Buckets
}

// wantBehind holds the objects from a place of the half on against shapes.
func wantBehind(t *testing.T, h *heap.Heap, from int, want ...shape) {
	t.Helper()
	var got []shape
	for at := from; at < h.Stats().Used; {
		s := shapeOf(t, h, uint64(at))
		got = append(got, s)
		at += 1 + s.refs + s.raws
	}
	if !slices.Equal(got, want) {
		t.Fatalf("laid down: %v, want %v", got, want)
	}
}

// TestP7_3_TheBlobGoesOver: the node of a member that is moved has the very blob that the former one had.
func TestP7_3_TheBlobGoesOver(t *testing.T) {
	h := made(t, 8000)
	wantErrno(t, "Resize", h.Resize(1000), api.OK)
	for _, n := range []int{0, 5, 600} {
		r := ranked(t, h, 5, member{text(n), 5, 2})
		h.Collect()
		before := h.Stats().Collections
		blob := field(t, h, field(t, h, r.Ref(), 2), 0)
		wantAdd(t, r, member{text(n), 6, 5}, false, api.OK)
		if h.Stats().Collections != before {
			t.Fatal("the heap has collected")
		}
		if got := field(t, h, field(t, h, r.Ref(), 2), 0); got != blob {
			t.Errorf("the blob of %d bytes lies at %#x, before at %#x", n, got, blob)
		}
		r.Close()
	}
}

// TestP7_4_StepsOfTheRehash: an Add that comes to the table's Put makes a step, a Remove that takes out does, nothing else.
func TestP7_4_StepsOfTheRehash(t *testing.T) {
	h := made(t, 1<<14)
	list := counted(129)
	r := ranked(t, h, 5, list...)
	wantRehash(t, h, r, 129, 256, 128, 0)
	length, moved := 129, 0
	for _, c := range []struct {
		call       func()
		more, step int
	}{
		{func() { r.Add([]byte("new"), 0, 1) }, 1, 16},
		{func() { r.Add([]byte("new"), 0, 5) }, 0, 0},
		{func() { r.Add([]byte("new"), 1, 5) }, 0, 16},
		{func() { r.Add([]byte("new"), 2, 0) }, 0, 0},
		{func() { r.Add(make([]byte, 4097), 2, 1) }, 0, 0},
		{func() { r.Remove([]byte("none")) }, 0, 0},
		{func() { r.Remove(make([]byte, 5000)) }, 0, 0},
		{func() { r.Remove([]byte("new")) }, -1, 16},
		{func() { r.Remove([]byte("new")) }, 0, 0},
		{func() { r.Score([]byte("7")); r.Place([]byte("7")); r.Score([]byte("x")); r.Place([]byte("x")) }, 0, 0},
		{func() { r.Before(5, []byte("7")); r.Below(5, true); r.Slice(0, 200); r.Len(); r.Ref() }, 0, 0},
		{func() { wantSet(t, r, list...) }, 0, 0},
		{func() { r.Remove([]byte("7")) }, -1, 16},
	} {
		c.call()
		length += c.more
		moved += c.step
		wantRehash(t, h, r, length, 256, 128, moved)
	}
}

func TestP7_4_Remove(t *testing.T) {
	h := made(t, 1<<15)
	list := append(counted(40), member{"", 7, 8}, member{text(4096), 7, 1}, member{text(600), most, 3}, member{"low", least, 8})
	r := ranked(t, h, 5, list...)
	for len(list) > 0 {
		i := 17 % len(list)
		gone := list[i]
		wantRemove(t, r, gone.text, true, api.OK)
		list = slices.Delete(list, i, i+1)
		wantSet(t, r, list...)
		wantLaid(t, h, r, 5, list...)
		wantScore(t, r, gone.text, 0, false)
		wantPlace(t, r, gone.text, 0, false)
		wantRemove(t, r, gone.text, false, api.OK)
	}
	wantSet(t, r)
	wantLaid(t, h, r, 5)
	m := member{"back", 1, 2}
	wantAdd(t, r, m, true, api.OK)
	wantSet(t, r, m)
}

func TestP7_4_NotThere(t *testing.T) {
	h := made(t, 8000)
	list := append(counted(33), member{text(4096), 4, 4})
	r := ranked(t, h, 5, list...)
	before := stateOf(h)
	for _, text := range []string{"", "x", "33", "07", "7\x00", text(4095), text(4097), text(9000)} {
		wantRemove(t, r, text, false, api.OK)
	}
	wantState(t, "Remove of what is not there", h, before)
	wantSet(t, r, list...)
	empty := ranked(t, h, 5)
	wantRemove(t, empty, "", false, api.OK)
	wantRemove(t, empty, "x", false, api.OK)
}

// TestP7_4_NeverForWantOfRoom: with no word free members go all the same.
func TestP7_4_NeverForWantOfRoom(t *testing.T) {
	h := made(t, 8000)
	list := counted(65)
	r := ranked(t, h, 5, list...)
	for len(list) > 0 {
		handle := squeeze(t, h, 0)
		wantRemove(t, r, list[0].text, true, api.OK)
		list = list[1:]
		wantSet(t, r, list...)
		wantLaid(t, h, r, 5, list...)
		h.Drop(handle)
	}
}

// TestP7_4_DeleteComesAheadOfTheNode: while the table looks for room for a smaller array, the member's node and blob are live still.
func TestP7_4_DeleteComesAheadOfTheNode(t *testing.T) {
	list := counted(17)
	for free := range 30 {
		h := made(t, 2000)
		r := ranked(t, h, 5, list...)
		for _, m := range list[:9] {
			wantRemove(t, r, m.text, true, api.OK)
		}
		wantRehash(t, h, r, 8, 32, 0, 0)
		squeeze(t, h, free)
		wantRemove(t, r, list[9].text, true, api.OK)
		if free+10 >= 17 { // the words of the entry and the key's blob have come free
			wantRehash(t, h, r, 7, 16, 32, 0)
		} else {
			wantRehash(t, h, r, 7, 32, 0, 0)
		}
		wantSet(t, r, list[10:]...)
		wantLaid(t, h, r, 5, list[10:]...)
	}
}

// TestP7_5_Room: an Add finds room just where P3.9 says so, piece by piece in P7.3's order; refused it leaves all as it was.
func TestP7_5_Room(t *testing.T) {
	refused := map[int]int{}
	for _, n := range []int{0, 8, 60, 300, 496, 497, 700} {
		for _, level := range []int{1, 4, 8} {
			for _, limit := range []int{180, 300, 700} {
				for taken := 1; taken <= 64; taken += 1 + n/100 {
					addAtTheBrim(t, limit, taken, member{text(n), 1, level}, refused)
				}
			}
		}
	}
	for i := range 4 {
		if refused[i] < 3 {
			t.Errorf("piece %d found no room just %d times", i, refused[i])
		}
	}
}

// addAtTheBrim adds a member where so many words are taken beside a set of two.
func addAtTheBrim(t *testing.T, limit, taken int, m member, refused map[int]int) {
	t.Helper()
	h := made(t, limit)
	a, b := member{"a", 1, 2}, member{"b", 0, 3}
	r := ranked(t, h, 6, a, b)
	ref, e := h.Alloc(99, 0, taken-1)
	if e != api.OK {
		return
	}
	h.Root(ref)
	own := load{limit, 1 + 31 + 2*13 + 8 + 10 + taken, 0}
	with, fit := own.addAll(pieces(m)...)
	if fit == 4 {
		wantAdd(t, r, m, true, api.OK)
		wantSet(t, r, a, b, m)
		wantLaid(t, h, r, 6, a, b, m)
		wantUsed(t, h, with.small, with.large, 3)
		return
	}
	refused[fit]++
	wantAdd(t, r, m, false, api.ErrHeapFull)
	if got := h.Stats().Roots; got != 3 {
		t.Fatalf("%d handles are in use", got)
	}
	wantSet(t, r, a, b)
	wantLaid(t, h, r, 6, a, b)
	wantScore(t, r, m.text, 0, false)
	wantUsed(t, h, own.small, 0, 3)
}

// TestP7_5_RoomToMove: a member that is moved needs a node's words beside those of its former one, and no more.
func TestP7_5_RoomToMove(t *testing.T) {
	for _, n := range []int{1, 500, 2000} {
		for level := 1; level <= 8; level++ {
			for free := range 22 {
				h := made(t, 2500)
				list := []member{{text(n), 5, 8}, {"b", 6, 1}, {"c", 4, 3}}
				r := ranked(t, h, 5, list...)
				squeeze(t, h, free)
				m := member{text(n), 9, level}
				if free >= 4+2*level {
					wantAdd(t, r, m, false, api.OK)
					list[0] = m
				} else {
					wantAdd(t, r, m, false, api.ErrHeapFull)
				}
				if got := h.Stats().Roots; got != 3 {
					t.Fatalf("%d handles are in use", got)
				}
				wantSet(t, r, list...)
				wantLaid(t, h, r, 5, list...)
				wantAdd(t, r, list[0], false, api.OK)
			}
		}
	}
}

// TestP7_5_StepsOfRefusedAdds: an Add that is refused at the blob or the node has made no step of the table's rehash, one that the table refuses has.
func TestP7_5_StepsOfRefusedAdds(t *testing.T) {
	list := counted(33)
	for free := range 40 {
		h := made(t, 8000)
		r := ranked(t, h, 2, list...)
		wantRehash(t, h, r, 33, 64, 32, 0)
		squeeze(t, h, free)
		m := member{"new", 1, 3} // 3 + 10, then 3 + 7 of the table's
		switch {
		case free < 13:
			wantAdd(t, r, m, false, api.ErrHeapFull)
			wantRehash(t, h, r, 33, 64, 32, 0)
			wantSet(t, r, list...)
		case free < 23:
			wantAdd(t, r, m, false, api.ErrHeapFull)
			wantRehash(t, h, r, 33, 64, 32, 16)
			wantSet(t, r, list...)
		default:
			wantAdd(t, r, m, true, api.OK)
			wantRehash(t, h, r, 34, 64, 32, 16)
			wantSet(t, r, append(slices.Clone(list), m)...)
		}
	}
}

// TestP7_5_StepsOfRefusedMoves: without room for the node there is no step either.
func TestP7_5_StepsOfRefusedMoves(t *testing.T) {
	list := counted(33)
	h := made(t, 8000)
	r := ranked(t, h, 2, list...)
	squeeze(t, h, 10)
	wantAdd(t, r, member{"5", 1000, 4}, false, api.ErrHeapFull)
	wantRehash(t, h, r, 33, 64, 32, 0)
	wantSet(t, r, list...)
	list[5] = member{"5", 1000, 3}
	wantAdd(t, r, list[5], false, api.OK)
	wantRehash(t, h, r, 33, 64, 32, 16)
	wantSet(t, r, list...)
	wantLaid(t, h, r, 2, list...)
}

// TestP7_5_NeverRefusedInAQuarter: while the live words and 4096 more are within a quarter of the limit, any Add finds room.
func TestP7_5_NeverRefusedInAQuarter(t *testing.T) {
	const limit = 40000
	for _, n := range []int{2, 60, 496, 497, 4096} {
		h := made(t, limit)
		r := ranked(t, h, 3)
		var list []member
		for i := 0; ; i++ {
			h.Collect()
			if s := h.Stats(); 4*(s.Used-1+s.Large+4096) > limit {
				break
			}
			m := member{string([]byte{byte(i), byte(i >> 8)}) + text(n)[2:], int64(i * 7919 % 1000), 8}
			wantAdd(t, r, m, true, api.OK)
			list = append(list, m)
			list[i/2] = member{list[i/2].text, int64(-i), 8}
			wantAdd(t, r, list[i/2], false, api.OK)
		}
		if len(list) < 5 {
			t.Errorf("only %d members of %d bytes came", len(list), n)
		}
		wantSet(t, r, list...)
	}
}
