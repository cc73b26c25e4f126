package space_test

import (
	"fmt"
	"strings"
	"testing"

	"larder/api"
	"larder/blob"
	"larder/chain"
	"larder/rank"
	"larder/space"
	"larder/table"
)

// floor tells what the values themselves take, by P10.4.
func floor(s *space.Space) int {
	sum := 0
	count := func(b []byte) { sum += (len(b) + 7) / 8 }
	for db := range api.MaxDB {
		for _, key := range s.Keys(db) {
			count(key)
			v, _ := s.Value(db, key)
			count(v.Text)
			for _, b := range v.List {
				count(b)
			}
			for _, p := range v.Pairs {
				count(p.Field)
				count(p.Value)
			}
			for _, m := range v.Ranked {
				count(m.Member)
			}
		}
	}
	return sum
}

// wantWords holds the heap against floor and ceiling behind a collection.
func wantWords(t *testing.T, s *space.Space) {
	t.Helper()
	s.Heap().Collect()
	st := s.Heap().Stats()
	got, cost := st.Used+st.Large, s.Cost()
	if got < floor(s) || got > cost+cost/64+256 {
		t.Errorf("%d words at a cost of %d, with %d words of bytes", got, cost, floor(s))
	}
	if 2*st.Half+st.Large > 16*s.Quota()+131072 {
		t.Errorf("the heap has %d words", 2*st.Half+st.Large)
	}
}

// name tells a text of at least n bytes that belongs to i alone.
func name(i, n int) string {
	s := fmt.Sprint(i, "-")
	return s + strings.Repeat("n", max(0, n-len(s)))
}

// grown is a value of a kind with about so many elements, each of so many bytes.
func grown(kind, many, size int) api.Value {
	v := api.Value{Kind: kind}
	if kind == api.ValText {
		return text(wide(size))
	}
	for i := range many {
		b := []byte(name(i, size))
		switch kind {
		case api.ValHash:
			v.Pairs = append(v.Pairs, api.Pair{Field: b, Value: []byte(wide(size))})
		case api.ValRank:
			v.Ranked = append(v.Ranked, api.Scored{Member: b, Score: int64(i % 3)})
		default:
			v.List = append(v.List, b)
		}
	}
	return v
}

// TestP10_4_FloorAndCeiling: spaces filled to the quota with values of one shape each.
func TestP10_4_FloorAndCeiling(t *testing.T) {
	for kind := api.ValText; kind <= api.ValRank; kind++ {
		for _, many := range []int{1, 2, 5, 9, 17, 33, 65, 129, 300} {
			for _, size := range []int{0, 1, 8, 100, 490, 497, 520, 4096} {
				s := made(t, 16384)
				v := grown(kind, many, size)
				for i := 0; ; i++ {
					p := at(i%4, name(i, size/2))
					if _, e := s.Run(1, func() api.Reply { store(t, s, p, v); return api.Reply{} }); e == api.ErrSpaceFull {
						break
					}
				}
				wantWords(t, s)
				wantCost(t, s)
				for db := range api.MaxDB {
					for i, key := range s.Keys(db) {
						if i%3 != 0 {
							done(t, s, 1, func() { s.Remove(db, key) })
						}
					}
				}
				wantWords(t, s)
			}
		}
	}
}

// TestP10_4_InPlace: values that grow and shrink in place, with the highest towers.
func TestP10_4_InPlace(t *testing.T) {
	s := made(t, 16384)
	h := s.Heap()
	for _, many := range []int{200, 30, 100, 3, 230, 1, 90} {
		done(t, s, 1, func() {
			r, _ := rank.Open(h, edit(t, s, at(0, "r"), api.ValRank))
			x, _ := table.Open(h, edit(t, s, at(1, "s"), api.ValSet))
			for i := range many {
				r.Add([]byte(name(i, 1)), int64(-i), 8)
				x.Put([]byte(name(i, 1)), 0, 0, 0)
			}
			for i := many; i < 250; i++ {
				r.Remove([]byte(name(i, 1)))
				x.Delete([]byte(name(i, 1)))
			}
			r.Close()
			x.Close()
		})
		wantWords(t, s)
		wantCost(t, s)
	}
	done(t, s, 1, func() { s.Remove(0, []byte("r")); s.Remove(1, []byte("s")) })
	wantWords(t, s)
	if s.Cost() != 0 {
		t.Errorf("cost %d", s.Cost())
	}
}

// TestP10_4_NothingIsLeftOfWhatWasUndone: nor of a Run that filled the heap far above the quota.
func TestP10_4_NothingIsLeftOfWhatWasUndone(t *testing.T) {
	s := made(t, 2000)
	done(t, s, 1, func() {
		for i, v := range kinds() {
			store(t, s, at(i%4, fmt.Sprint(i)), v)
		}
	})
	before := picture(s)
	for range 3 {
		wantRun(t, s, 1, 9, func() {
			for i := range 300 {
				store(t, s, at(i%4, fmt.Sprint(i)), grown(1+i%5, 3, 8))
			}
			s.Fail(9)
		})
		wantPicture(t, s, "undone", before)
		wantWords(t, s)
	}
}

// shapes are ways to fill a space by calls of Store.
var shapes = []struct{ kind, many, size, key int }{
	{api.ValText, 0, 0, 1}, {api.ValText, 0, 8, 8}, {api.ValText, 0, 497, 1}, {api.ValText, 0, 4096, 600}, {api.ValText, 0, 100, 4096},
	{api.ValList, 1, 1, 1}, {api.ValList, 100, 0, 1}, {api.ValList, 50, 500, 1},
	{api.ValHash, 1, 1, 1}, {api.ValHash, 5, 500, 1}, {api.ValHash, 65, 1, 1}, {api.ValHash, 700, 0, 8},
	{api.ValSet, 1, 0, 1}, {api.ValSet, 17, 1, 1}, {api.ValSet, 1030, 1, 1}, {api.ValSet, 33, 500, 1},
	{api.ValRank, 1, 0, 1}, {api.ValRank, 9, 3, 1}, {api.ValRank, 300, 3, 1}, {api.ValRank, 20, 1000, 1},
}

// TestP10_14_RoomForTwiceTheQuotaAndMore: up to 2*quota + 32768 no Store is refused, with an object of 4096 words held beside, and no table puts a rehash off.
func TestP10_14_RoomForTwiceTheQuotaAndMore(t *testing.T) {
	for _, quota := range []int{256, 3000, 16384} {
		for i, shape := range shapes {
			s := made(t, quota)
			done(t, s, 1, func() { worth(t, s, quota) })
			before := picture(s)
			v := grown(shape.kind, shape.many, shape.size)
			wantRun(t, s, 1, api.ErrSpaceFull, func() {
				mine, _ := s.Heap().Alloc(api.KindBlob, 0, 4095)
				held, _ := s.Heap().Root(mine)
				spent := s.Cost()
				for j := 0; ; j++ {
					key := name(j, shape.key)
					if spent += costOf(key, v); spent > 2*quota+32768 {
						spent -= costOf(key, v)
						break
					}
					if e := s.Store(j%4, []byte(key), v); e != api.OK {
						t.Fatalf("quota %d, shape %d: Store %d to a cost of %d: %d", quota, i, j, spent, e)
					}
					if j%20 == 0 {
						wantNoRehashPutOff(t, s, at(j%4, key))
					}
				}
				if s.Cost() != spent {
					t.Errorf("cost %d, want %d", s.Cost(), spent)
				}
				s.Heap().Drop(held)
			})
			wantPicture(t, s, "behind it", before)
			wantWords(t, s)
		}
	}
}

// wantNoRehashPutOff: a table that has more keys than buckets is under way to more.
func wantNoRehashPutOff(t *testing.T, s *space.Space, p api.Place) {
	t.Helper()
	kind, ref := s.Find(p.DB, []byte(p.Key))
	switch kind {
	case api.ValRank:
		ref, _ = s.Heap().Get(ref, 0)
	case api.ValHash, api.ValSet:
	default:
		return
	}
	x, e := table.Open(s.Heap(), ref)
	if e != api.OK {
		t.Fatalf("no table: %d", e)
	}
	defer x.Close()
	if shape := x.Shape(); shape.Old == 0 && shape.Len > shape.Buckets {
		t.Errorf("a rehash was put off: %v", shape)
	}
}

// TestP10_14_RoomInPlace: likewise for what is changed in place, and for what is bound.
func TestP10_14_RoomInPlace(t *testing.T) {
	for _, quota := range []int{256, 16384} {
		most := 2*quota + 32768
		s := made(t, quota)
		done(t, s, 1, func() { worth(t, s, quota) })
		before := picture(s)
		h := s.Heap()
		wantRun(t, s, 1, api.ErrSpaceFull, func() {
			l, _ := chain.Open(h, edit(t, s, at(0, "list"), api.ValList))
			x, _ := table.Open(h, edit(t, s, at(1, "set"), api.ValSet))
			r, _ := rank.Open(h, edit(t, s, at(2, "rank"), api.ValRank))
			spent := s.Cost()
			for i := 0; spent+6+16+40+4*(2+3) <= most; i++ {
				b := []byte(name(i, 17))
				e := l.Push(i%2 == 0, b)
				_, f := x.Put(b, 0, 0, 0)
				_, g := r.Add(b, int64(i*7919%1000), 8)
				if max(e, f, g) != api.OK {
					t.Fatalf("refused at a cost of %d: %d, %d, %d", spent, e, f, g)
				}
				spent += 6 + 16 + 40 + 4*(2+3)
			}
			if s.Cost() != spent {
				t.Errorf("cost %d, want %d", s.Cost(), spent)
			}
			l.Close()
			x.Close()
			r.Close()
			wantNoRehashPutOff(t, s, at(1, "set"))
			wantNoRehashPutOff(t, s, at(2, "rank"))
		})
		wantPicture(t, s, "behind it", before)
		wantRun(t, s, 1, api.ErrSpaceFull, func() {
			for i := 0; ; i++ {
				key := name(i, 1)
				v := []api.Value{text(wide(4096)), grown(api.ValList, 150, 150), grown(api.ValHash, 60, 100), grown(api.ValRank, 60, 60)}[i%4]
				if s.Cost()+costOf(key, v) > most {
					break
				}
				wantErr(t, "Bind", s.Bind(i%4, []byte(key), v.Kind, makeAt(t, h, v)), api.OK)
			}
		})
		wantPicture(t, s, "behind it", before)
		wantWords(t, s)
	}
}

// late tells a key that stands behind those of worth.
func late(i, n int) string { return "~" + name(i, n) }

// stuff fills the heap by calls of Store with ever smaller texts until not even an empty one has room. Its keys are numbered from many on; it tells the number behind the last one.
func stuff(t *testing.T, s *space.Space, many int) int {
	t.Helper()
	for size := 4096; ; size /= 2 {
		for {
			before := 0
			if many%50 == 0 {
				before = s.Cost()
			}
			e := s.Store(many%4, []byte(late(many, 1)), text(wide(size)))
			if e != api.OK {
				wantErr(t, "Store without room", e, api.ErrHeapFull)
				wantNothing(t, s, at(many%4, late(many, 1)))
				break
			}
			if before != 0 && s.Cost() != before+costOf(late(many, 1), text(wide(size))) {
				t.Fatalf("cost %d behind %d", s.Cost(), before)
			}
			many++
		}
		if size == 0 {
			return many
		}
	}
}

// TestP10_14_WhenTheHeapIsFull: what is refused changes nothing; Remove, SetDeadline and undoing are never refused.
func TestP10_14_WhenTheHeapIsFull(t *testing.T) {
	for _, quota := range []int{256, 3000, 16384} {
		s := made(t, quota)
		h := s.Heap()
		done(t, s, 1, func() { worth(t, s, quota) })
		before := picture(s)
		for _, end := range []string{"Fail", "an error", "the quota"} {
			r, e := s.Run(1, func() api.Reply {
				s.Remove(0, []byte("A"))
				s.SetDeadline(1, []byte("B"), 2)
				many := stuff(t, s, 0)
				full := picture(s)
				longKey := []byte(wide(2000))
				if _, e := s.Edit(0, longKey, api.ValText); e != api.ErrHeapFull {
					t.Errorf("Edit: %d", e)
				}
				if ref, e := s.Edit(0, []byte("new"), api.ValRank); ref != 0 || e != api.ErrHeapFull {
					t.Errorf("Edit: %d, %d", ref, e)
				}
				_, ref := s.Find(1, []byte(late(1, 1)))
				wantErr(t, "Bind", s.Bind(0, longKey, api.ValText, ref), api.ErrHeapFull)
				wantErr(t, "Store", s.Store(1, []byte(late(1, 1)), grown(api.ValSet, 600, 8)), api.ErrHeapFull)
				if s.Move(1, []byte(late(1, 1)), 0, longKey) {
					t.Error("Move: true")
				}
				wantPicture(t, s, "refused", full)
				// A key that is there takes the place of another without room.
				if !s.Move(0, []byte(late(0, 1)), 1, []byte(late(1, 1))) {
					t.Error("Move onto a key: false")
				}
				many = stuff(t, s, many)
				for i := 1; i < many; i++ {
					key := []byte(late(i, 1))
					if i%2 == 0 {
						wantErr(t, "SetDeadline", s.SetDeadline(i%4, key, 70), api.OK)
					} else if !s.Remove(i%4, key) {
						t.Errorf("Remove of %q: false", key)
					}
				}
				stuff(t, s, many)
				switch end {
				case "Fail":
					s.Fail(9)
				case "an error":
					return api.Bad(api.BadKey)
				}
				return api.Reply{}
			})
			if (e == 9) != (end == "Fail") || (e == api.ErrSpaceFull) != (end == "the quota") || (r.Kind == api.ReplyError) != (end == "an error") {
				t.Errorf("%s: %v, %d", end, r, e)
			}
			wantPicture(t, s, end, before)
			wantChanged(t, s)
			if st := h.Stats(); 2*st.Half+st.Large > 16*quota+131072 {
				t.Errorf("the heap has %d words", 2*st.Half+st.Large)
			}
		}
		h.Collect()
		if st := h.Stats(); st.Used+st.Large < floor(s) || st.Used+st.Large > 4*quota+2000 {
			t.Errorf("%d words are left at a cost of %d", st.Used+st.Large, s.Cost())
		}
	}
}

// TestP10_14_OneHugeValue: a Store that has no room stops on its way and leaves nothing behind.
func TestP10_14_OneHugeValue(t *testing.T) {
	s := filled(t)
	before := picture(s)
	done(t, s, 6, func() {
		for kind := api.ValList; kind <= api.ValRank; kind++ {
			wantErr(t, "Store", s.Store(0, []byte("0"), grown(kind, 20000, 8)), api.ErrHeapFull)
			wantErr(t, "Store", s.Store(3, []byte("new"), grown(kind, 20000, 8)), api.ErrHeapFull)
		}
		wantPicture(t, s, "refused", before)
	})
	wantChanged(t, s)
	if st := s.Heap().Stats(); 2*st.Half+st.Large > 16*s.Quota()+131072 {
		t.Errorf("the heap has %d words", 2*st.Half+st.Large)
	}
}

// TestP10_14_WhatTheCallerHolds: more than it may leaves too little room; what is undone is right all the same, as long as there is any.
func TestP10_14_WhatTheCallerHolds(t *testing.T) {
	s := filled(t)
	h := s.Heap()
	before := picture(s)
	var held []int
	wantRun(t, s, 6, 9, func() {
		upset(t, s)
		for h.Stats().Large < 100000 {
			ref, e := blob.New(h, []byte(wide(4096)))
			if e != api.OK {
				break
			}
			n, _ := h.Root(ref)
			held = append(held, n)
		}
		s.Fail(9)
	})
	wantPicture(t, s, "undone", before)
	wantChanged(t, s)
	for _, n := range held {
		h.Drop(n)
	}
	done(t, s, 6, func() { upset(t, s) })
}
