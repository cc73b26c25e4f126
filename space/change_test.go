package space_test

import (
	"fmt"
	"testing"

	"larder/api"
	"larder/blob"
	"larder/chain"
	"larder/table"
)

var outOfPlace = []struct {
	db   int
	key  string
	want api.Errno
}{
	{-1, "k", api.ErrSpaceDB}, {4, "k", api.ErrSpaceDB}, {1 << 62, "k", api.ErrSpaceDB}, {-1 << 63, "k", api.ErrSpaceDB},
	{4, wide(4097), api.ErrSpaceDB}, {-1, wide(4097), api.ErrSpaceDB},
	{0, wide(4097), api.ErrSpaceKey}, {3, wide(5000), api.ErrSpaceKey},
}

func TestP10_8_OutsideARun(t *testing.T) {
	s := filled(t)
	before := picture(s)
	for _, p := range append(outOfPlace, struct {
		db   int
		key  string
		want api.Errno
	}{0, "0", api.OK}) {
		key := []byte(p.key)
		if ref, e := s.Edit(p.db, key, 9); ref != 0 || e != api.ErrSpaceIdle {
			t.Errorf("Edit: %d, %d", ref, e)
		}
		wantErr(t, "Bind", s.Bind(p.db, key, 9, 0), api.ErrSpaceIdle)
		wantErr(t, "Store", s.Store(p.db, key, api.Value{Kind: 9}), api.ErrSpaceIdle)
		wantErr(t, "Store", s.Store(p.db, key, text("x")), api.ErrSpaceIdle)
		wantErr(t, "SetDeadline", s.SetDeadline(p.db, key, 1<<63), api.ErrSpaceIdle)
		if s.Remove(p.db, key) || s.Move(p.db, key, 1, nil) || s.Move(0, []byte("0"), p.db, key) {
			t.Error("Remove or Move: true")
		}
	}
	wantPicture(t, s, "outside", before)
}

func TestP10_8_NoPlace(t *testing.T) {
	s := filled(t)
	before := picture(s)
	done(t, s, 6, func() {
		for _, p := range outOfPlace {
			key := []byte(p.key)
			ref, e := s.Edit(p.db, key, 9)
			if ref != 0 {
				t.Errorf("Edit: %d", ref)
			}
			wantErr(t, "Edit", e, p.want)
			wantErr(t, "Bind", s.Bind(p.db, key, 9, 0), p.want)
			wantErr(t, "Store", s.Store(p.db, key, api.Value{Kind: 9}), p.want)
			wantErr(t, "Store", s.Store(p.db, key, set("a", "a")), p.want)
			wantErr(t, "SetDeadline", s.SetDeadline(p.db, key, 1<<63), p.want)
			if s.Remove(p.db, key) || s.Move(p.db, key, 1, nil) || s.Move(0, []byte("0"), p.db, key) {
				t.Error("Remove or Move: true")
			}
		}
		wantPicture(t, s, "inside", before)
	})
	wantChanged(t, s)
}

var noKinds = []int{0, 6, -1, 1 << 40, -1 << 63}

func TestP10_8_Edit(t *testing.T) {
	s := filled(t)
	h := s.Heap()
	done(t, s, 6, func() {
		for i, v := range kinds() {
			key := []byte{byte('0' + i)}
			for kind := api.ValText; kind <= api.ValRank; kind++ {
				ref, e := s.Edit(0, key, kind)
				if kind != v.Kind {
					if ref != 0 || e != api.ErrSpaceKind {
						t.Errorf("Edit of kind %d as %d: %d, %d", v.Kind, kind, ref, e)
					}
					continue
				}
				if _, found := s.Find(0, key); ref != found || e != api.OK {
					t.Errorf("Edit of kind %d: %d, %d; Find %d", kind, ref, e, found)
				}
				wantValue(t, s, at(0, string(key)), v)
			}
			for _, kind := range noKinds {
				if ref, e := s.Edit(0, key, kind); ref != 0 || e != api.ErrSpaceKind {
					t.Errorf("Edit as %d: %d, %d", kind, ref, e)
				}
				if ref, e := s.Edit(0, []byte("none"), kind); ref != 0 || e != api.ErrSpaceKind {
					t.Errorf("Edit of none as %d: %d, %d", kind, ref, e)
				}
			}
		}
	})
	wantChanged(t, s)
	for kind := api.ValText; kind <= api.ValRank; kind++ {
		p := at(3, "new")
		wantRun(t, s, 6, 9, func() {
			ref := edit(t, s, p, kind)
			if is, _, _, e := h.Object(ref); e != api.OK || is != []int{0, api.KindBlob, api.KindList, api.KindTable, api.KindTable, api.KindRank}[kind] {
				t.Errorf("Edit of a new key as %d: an object of kind %d, %d", kind, is, e)
			}
			wantValue(t, s, p, api.Value{Kind: kind})
			wantDeadline(t, s, p, 0)
			if s.CostOf(3, []byte("new")) != costOf("new", api.Value{Kind: kind}) || s.Size(3) != 1 {
				t.Errorf("an empty value of kind %d: cost %d, size %d", kind, s.CostOf(3, []byte("new")), s.Size(3))
			}
			wantCost(t, s)
			// It is there as any other value is.
			for other := api.ValText; other <= api.ValRank; other++ {
				if _, e := s.Edit(3, []byte("new"), other); (e == api.OK) != (other == kind) {
					t.Errorf("Edit of an empty value of kind %d as %d: %d", kind, other, e)
				}
			}
			s.Fail(9)
		})
		wantNothing(t, s, p)
	}
	done(t, s, 6, func() { edit(t, s, at(0, "1"), api.ValList) })
	wantDeadline(t, s, at(0, "1"), 1000)
}

// TestP10_8_ChangedInPlace: what Edit told may be changed until the Run ends, also behind other calls; Value, Cost and Find see it at once.
func TestP10_8_ChangedInPlace(t *testing.T) {
	s := made(t, 4000)
	h := s.Heap()
	done(t, s, 1, func() { store(t, s, at(0, "l"), list("a")) })
	done(t, s, 1, func() {
		l, _ := chain.Open(h, edit(t, s, at(0, "l"), api.ValList))
		defer l.Close()
		l.Push(false, []byte("b"))
		wantValue(t, s, at(0, "l"), list("a", "b"))
		wantCost(t, s)
		store(t, s, at(1, "other"), hash("f", wide(3000)))
		s.SetDeadline(0, []byte("l"), 90)
		h.Collect()
		l.Push(true, []byte(wide(600)))
		wantValue(t, s, at(0, "l"), list(wide(600), "a", "b"))
		wantCost(t, s)
		s.Remove(1, []byte("other"))
		l.Cut(1, 2)
	})
	wantValue(t, s, at(0, "l"), list(wide(600)))
	wantDeadline(t, s, at(0, "l"), 90)
	wantChanged(t, s, at(0, "l"))
	wantCost(t, s)
}

func TestP10_9_Bind(t *testing.T) {
	s := filled(t)
	h := s.Heap()
	done(t, s, 6, func() {
		mine := map[int]uint64{}
		for _, v := range kinds() {
			mine[v.Kind] = makeAt(t, h, v)
			h.Root(mine[v.Kind]) // held till the space is gone
		}
		fits := map[int]int{api.ValText: api.KindBlob, api.ValList: api.KindList, api.ValHash: api.KindTable, api.ValSet: api.KindTable, api.ValRank: api.KindRank}
		node, _ := h.Alloc(api.KindNode, 3, 0)
		large, _ := h.Alloc(api.KindTower, 3, 100)
		for kind, want := range fits {
			for _, ref := range []uint64{0, node, large, 1<<63 - 1, 1<<64 - 1, mine[api.ValText] + 1} {
				wantErr(t, "Bind of what is none", s.Bind(0, []byte("0"), kind, ref), api.ErrSpaceRef)
			}
			for other, ref := range mine {
				if fits[other] != want {
					wantErr(t, "Bind of another kind", s.Bind(0, []byte("0"), kind, ref), api.ErrSpaceRef)
				}
			}
		}
		for _, kind := range noKinds {
			wantErr(t, "Bind of no kind", s.Bind(0, []byte("0"), kind, 0), api.ErrSpaceKind)
		}
	})
	wantChanged(t, s)
	for _, v := range kinds() {
		for i, old := range kinds() {
			key := []byte{byte('0' + i)}
			p := at(0, string(key))
			deadline, _ := s.Deadline(0, key)
			wantRun(t, s, 6, 9, func() {
				wantErr(t, "Bind", s.Bind(0, key, v.Kind, makeAt(t, h, v)), api.OK)
				wantValue(t, s, p, v)
				wantDeadline(t, s, p, deadline)
				wantCost(t, s)
				s.Fail(9)
			})
			wantValue(t, s, p, old)
		}
	}
}

// TestP10_9_BoundMayBeChanged: the object that was bound is the value itself, and a deadline stays.
func TestP10_9_BoundMayBeChanged(t *testing.T) {
	s := made(t, 2000)
	h := s.Heap()
	p := at(3, "k")
	done(t, s, 1, func() { store(t, s, p, text("old")); s.SetDeadline(3, []byte("k"), 70) })
	done(t, s, 1, func() {
		x, _ := table.New(h, seed)
		defer x.Close()
		wantErr(t, "Bind", s.Bind(3, []byte("k"), api.ValSet, x.Ref()), api.OK)
		wantDeadline(t, s, p, 70)
		if _, ref := s.Find(3, []byte("k")); ref != x.Ref() {
			t.Errorf("Find leads to %d, the object lies at %d", ref, x.Ref())
		}
		x.Put([]byte("m"), 0, 0, 0)
		wantValue(t, s, p, set("m"))
		wantCost(t, s)
		h.Collect()
		x.Put([]byte("n"), 0, 0, 0)
	})
	wantValue(t, s, p, set("m", "n"))
	wantDeadline(t, s, p, 70)
	wantCost(t, s)
}

// TestP10_9_TheRefIsKeptRight: nothing but the call itself holds the object, and the key is a long one, so that laying it down collects.
func TestP10_9_TheRefIsKeptRight(t *testing.T) {
	s := made(t, 16384)
	h := s.Heap()
	done(t, s, 1, func() {
		for i := range 300 {
			ref, e := blob.New(h, []byte(wide(i)))
			if e != api.OK {
				t.Fatalf("a blob: %d", e)
			}
			wantErr(t, "Bind", s.Bind(0, []byte{byte(i), byte(i >> 8)}, api.ValText, ref), api.OK)
		}
		for i := range 300 {
			wantValue(t, s, at(0, string([]byte{byte(i), byte(i >> 8)})), text(wide(i)))
		}
	})
	if h.Stats().Collections == 0 {
		t.Error("there was no collection: the test is too small")
	}
}

func TestP10_10_Store(t *testing.T) {
	long := wide(4097)
	s := filled(t)
	before := picture(s)
	done(t, s, 6, func() {
		for _, kind := range noKinds {
			wantErr(t, "Store of no kind", s.Store(0, []byte("0"), api.Value{Kind: kind, List: lines([]string{"a"}), Text: []byte(long)}), api.ErrSpaceKind)
		}
		for i, v := range []api.Value{
			text(long), list(long), list("a", long), list(long, "a"), set("a", long), hash("a", "b", long, "c"), hash("a", long), hash("c", "", "a", long), ranked(scored("a", 1), scored(long, 2)),
			set("a", "a"), set("", "b", ""), set("a", "b", "c", "d", "a"), hash("a", "1", "a", "2"), hash("a", "1", "b", "1", "a", "1"), hash("", "", "", ""), ranked(scored("a", 1), scored("a", 2)), ranked(scored("a", 1), scored("a", 1)), ranked(scored("a", 1), scored("b", 1), scored("a", 2)),
		} {
			wantErr(t, fmt.Sprint("Store of row ", i), s.Store(0, []byte("0"), v), api.ErrSpaceValue)
			wantErr(t, fmt.Sprint("Store of row ", i), s.Store(3, []byte("new"), v), api.ErrSpaceValue)
		}
		wantPicture(t, s, "refused", before)
	})
	wantChanged(t, s)
	// What is at the limit is taken; what stands twice may, where it is no name.
	for _, v := range []api.Value{text(wide(4096)), list(wide(4096), wide(4096)), set(wide(4095), wide(4096)), hash(wide(4096), wide(4096)), ranked(scored(wide(4096), 1<<63-1), scored("a", -1<<63)), list("a", "a", ""), hash("a", "v", "b", "v"), text(""), list(""), set(""), hash("", ""), ranked(scored("", 0))} {
		p := at(1, wide(4096))
		wantRun(t, s, 6, 9, func() {
			store(t, s, p, v)
			got, _ := s.Value(1, []byte(p.Key))
			if costOf("", got) != costOf("", v) {
				t.Errorf("%s is stored as %s", show(v), show(got))
			}
			wantCost(t, s)
			s.Fail(9)
		})
	}
}

func TestP10_10_StoreReplaces(t *testing.T) {
	s := filled(t)
	for i := range kinds() {
		for _, v := range kinds() {
			key := []byte{byte('0' + i)}
			wantRun(t, s, 6, 9, func() {
				s.SetDeadline(0, key, 800)
				store(t, s, at(0, string(key)), v)
				wantValue(t, s, at(0, string(key)), v)
				wantDeadline(t, s, at(0, string(key)), 0)
				s.Fail(9)
			})
		}
	}
}

func TestP10_10_AnyOrderAndWhatIsNotLookedAt(t *testing.T) {
	s := made(t, 4000)
	other := api.Value{Text: []byte(wide(5000)), List: lines([]string{"x", "x"}), Pairs: []api.Pair{{Field: []byte("f")}, {Field: []byte("f")}}, Ranked: []api.Scored{scored("m", 1), scored("m", 2)}}
	for _, c := range []struct{ v, want api.Value }{
		{text("t"), text("t")},
		{list("b", "a"), list("b", "a")},
		{hash("b", "1", "", "2", "ab", "3", "a", "4"), hash("", "2", "a", "4", "ab", "3", "b", "1")},
		{set("b", "ab", "", "a", "\xff"), set("", "a", "ab", "b", "\xff")},
		{ranked(scored("b", 1), scored("z", -1<<63), scored("a", 1), scored("", 1<<63-1), scored("c", -1)), ranked(scored("z", -1<<63), scored("c", -1), scored("a", 1), scored("b", 1), scored("", 1<<63-1))},
	} {
		v := c.v
		if v.Kind != api.ValText {
			v.Text = other.Text
		}
		if v.Kind != api.ValList && v.Kind != api.ValSet {
			v.List = other.List
		}
		if v.Kind != api.ValHash {
			v.Pairs = other.Pairs
		}
		if v.Kind != api.ValRank {
			v.Ranked = other.Ranked
		}
		done(t, s, 1, func() { store(t, s, at(0, "k"), v) })
		wantValue(t, s, at(0, "k"), c.want)
		wantCost(t, s)
	}
}

func TestP10_10_AValueOfNoElements(t *testing.T) {
	s := filled(t)
	for kind := api.ValList; kind <= api.ValRank; kind++ {
		wantRun(t, s, 6, 9, func() {
			for i := range 5 {
				p := at(0, string(rune('0'+i)))
				wantErr(t, "Store of nothing", s.Store(0, []byte(p.Key), api.Value{Kind: kind, Text: []byte("x")}), api.OK)
				wantNothing(t, s, p)
			}
			wantErr(t, "Store of nothing at nothing", s.Store(3, nil, api.Value{Kind: kind}), api.OK)
			wantNothing(t, s, at(3, ""))
			if s.Size(0) != 0 || s.Size(3) != 0 {
				t.Errorf("sizes %d, %d", s.Size(0), s.Size(3))
			}
			s.Fail(9)
		})
	}
	done(t, s, 6, func() { s.Store(0, []byte("2"), list()) })
	wantChanged(t, s, at(0, "2"))
}

func TestP10_11_Remove(t *testing.T) {
	s := filled(t)
	done(t, s, 6, func() {
		for i := range 5 {
			key := []byte{byte('0' + i)}
			if !s.Remove(0, key) {
				t.Errorf("Remove of %q: false", key)
			}
			wantNothing(t, s, at(0, string(key)))
			if s.Remove(0, key) || s.Remove(1, key) {
				t.Errorf("Remove of %q again: true", key)
			}
		}
		wantCost(t, s)
		if s.Remove(0, nil) || !s.Remove(1, []byte("due")) {
			t.Error("Remove of none: true, or of one: false")
		}
		// What is hollow is there inside the Run.
		edit(t, s, at(2, "e"), api.ValHash)
		if !s.Remove(2, []byte("e")) || s.Remove(2, []byte("e")) {
			t.Error("Remove of a hollow value")
		}
		if s.Cost() != 0 {
			t.Errorf("cost %d", s.Cost())
		}
	})
	wantChanged(t, s, at(0, "0"), at(0, "1"), at(0, "2"), at(0, "3"), at(0, "4"), at(1, "due"))
}

func TestP10_12_Move(t *testing.T) {
	s := filled(t)
	before := picture(s)
	one, four := []byte("1"), []byte("4")
	for _, to := range []api.Place{at(0, "4"), at(0, "new"), at(3, "1"), at(2, ""), at(1, wide(4096))} {
		wantRun(t, s, 6, 9, func() {
			if !s.Move(0, one, to.DB, []byte(to.Key)) {
				t.Errorf("Move to %v: false", to)
			}
			wantNothing(t, s, at(0, "1"))
			wantValue(t, s, to, kinds()[1])
			wantDeadline(t, s, to, 1000)
			wantCost(t, s)
			if s.Move(0, one, to.DB, []byte(to.Key)) {
				t.Error("Move of what is gone: true")
			}
			s.Fail(9)
		})
		wantPicture(t, s, "undone", before)
	}
	done(t, s, 6, func() {
		// The second one's deadline goes with what was there.
		if !s.Move(0, four, 0, one) {
			t.Error("Move: false")
		}
		wantDeadline(t, s, at(0, "1"), 0)
		wantValue(t, s, at(0, "1"), kinds()[4])
		now := picture(s)
		if !s.Move(0, one, 0, one) || s.Move(0, four, 0, four) || s.Move(0, four, 0, one) || s.Move(0, one, 4, one) || s.Move(-1, one, 0, one) || s.Move(0, one, 0, make([]byte, 4097)) {
			t.Error("Move onto itself, of nothing, to no place")
		}
		wantPicture(t, s, "nothing was moved", now)
	})
	wantChanged(t, s, at(0, "1"), at(0, "4"))
}

func TestP10_12_WhatWasEditedIsMoved(t *testing.T) {
	s := made(t, 2000)
	done(t, s, 1, func() {
		fill(t, s.Heap(), list("a"), edit(t, s, at(0, "x"), api.ValList), s, at(0, "x"))
		s.Move(0, []byte("x"), 1, []byte("y"))
		fill(t, s.Heap(), list("b"), edit(t, s, at(1, "y"), api.ValList), s, at(1, "y"))
		wantCost(t, s)
	})
	wantValue(t, s, at(1, "y"), list("a", "b"))
	wantChanged(t, s, at(1, "y"))
}

func TestP10_13_SetDeadline(t *testing.T) {
	s := filled(t)
	key := []byte("2")
	before := picture(s)
	done(t, s, 6, func() {
		for _, at := range []uint64{api.MaxTime + 1, 1 << 63, 1<<64 - 1} {
			wantErr(t, "above MaxTime", s.SetDeadline(0, key, at), api.ErrSpaceTime)
			wantErr(t, "above MaxTime, no key", s.SetDeadline(0, nil, at), api.ErrSpaceTime)
		}
		for _, at := range []uint64{0, 1, 7, api.MaxTime} {
			wantErr(t, "no key", s.SetDeadline(0, nil, at), api.ErrSpaceNone)
			wantErr(t, "no key", s.SetDeadline(1, key, at), api.ErrSpaceNone)
		}
		wantPicture(t, s, "refused", before)
	})
	for _, until := range []uint64{0, 7, 8, api.MaxTime, 1 << 40} {
		wantRun(t, s, 6, 9, func() {
			for _, first := range []uint64{0, 99, until} {
				wantErr(t, "SetDeadline", s.SetDeadline(0, key, first), api.OK)
				wantErr(t, "SetDeadline", s.SetDeadline(0, key, until), api.OK)
				wantDeadline(t, s, at(0, "2"), until)
				wantValue(t, s, at(0, "2"), kinds()[2])
			}
			s.Fail(9)
		})
	}
	for _, past := range []uint64{1, 5, 6} {
		wantRun(t, s, 6, 9, func() {
			wantErr(t, "SetDeadline in the past", s.SetDeadline(0, key, past), api.OK)
			wantNothing(t, s, at(0, "2"))
			wantErr(t, "SetDeadline again", s.SetDeadline(0, key, past), api.ErrSpaceNone)
			wantCost(t, s)
			if s.Size(0) != 4 {
				t.Errorf("size %d", s.Size(0))
			}
			s.Fail(9)
		})
		wantPicture(t, s, "undone", before)
	}
	done(t, s, 6, func() { s.SetDeadline(0, key, 6) })
	wantChanged(t, s, at(0, "2"))
	// At the clock's end every deadline has come.
	done(t, s, api.MaxTime, func() {
		store(t, s, at(0, "k"), text("x"))
		wantErr(t, "SetDeadline at the end", s.SetDeadline(0, []byte("k"), api.MaxTime), api.OK)
		wantNothing(t, s, at(0, "k"))
	})
	fresh := made(t, 256)
	done(t, fresh, 0, func() {
		store(t, fresh, at(0, "k"), text("x"))
		wantErr(t, "SetDeadline", fresh.SetDeadline(0, []byte("k"), 1), api.OK)
		wantErr(t, "SetDeadline 0 at clock 0", fresh.SetDeadline(0, []byte("k"), 0), api.OK)
		wantDeadline(t, fresh, at(0, "k"), 0)
	})
}
