package space_test

import (
	"testing"

	"larder/api"
	"larder/blob"
	"larder/chain"
	"larder/rank"
	"larder/table"
)

func TestP10_7_ChangedIsSorted(t *testing.T) {
	s := made(t, 2000)
	want := []api.Place{at(0, ""), at(0, "\x00"), at(0, "B"), at(0, "a"), at(0, "aa"), at(0, "b"), at(0, "\xff"), at(1, "a"), at(2, "A"), at(3, ""), at(3, "z")}
	done(t, s, 1, func() {
		for i := range want {
			p := want[i*7%len(want)]
			store(t, s, p, text("x"))
			wantChanged(t, s)
		}
	})
	wantChanged(t, s, want...)
	// It tells of the last Run alone, and of none inside one.
	s.Run(1, func() api.Reply {
		wantChanged(t, s)
		return api.Reply{}
	})
	wantChanged(t, s)
}

func TestP10_7_ChangedAheadOfAndInsideARun(t *testing.T) {
	s := made(t, 2000)
	wantChanged(t, s)
	done(t, s, 1, func() {
		store(t, s, at(0, "k"), text("x"))
		wantChanged(t, s)
		s.Run(2, nil)
		wantChanged(t, s)
	})
	wantChanged(t, s, at(0, "k"))
	s.Store(0, []byte("k"), text("y"))
	s.Remove(0, []byte("k"))
	wantChanged(t, s, at(0, "k"))
}

// TestP10_7_OnlyWhatDiffersHasChanged: a Run that writes and leaves all as it was, for each kind of value.
func TestP10_7_OnlyWhatDiffersHasChanged(t *testing.T) {
	for _, v := range kinds() {
		s := made(t, 2000)
		key := []byte("k")
		p := at(1, "k")
		done(t, s, 1, func() { store(t, s, p, v); s.SetDeadline(1, key, 50) })
		wantChanged(t, s, p)
		for what, f := range map[string]func(){
			"stored again":          func() { store(t, s, p, v); s.SetDeadline(1, key, 50) },
			"removed and stored":    func() { s.Remove(1, key); store(t, s, p, v); s.SetDeadline(1, key, 50) },
			"another and back":      func() { store(t, s, p, text("other")); store(t, s, p, v); s.SetDeadline(1, key, 50) },
			"edited":                func() { edit(t, s, p, v.Kind) },
			"bound":                 func() { s.Bind(1, key, v.Kind, makeAt(t, s.Heap(), v)) },
			"moved and back":        func() { s.Move(1, key, 0, key); s.Move(0, key, 1, key) },
			"moved onto itself":     func() { s.Move(1, key, 1, key) },
			"deadline and back":     func() { s.SetDeadline(1, key, 0); s.SetDeadline(1, key, 50) },
			"the same deadline":     func() { s.SetDeadline(1, key, 50) },
			"another key, and gone": func() { store(t, s, at(0, "x"), v); s.Remove(0, []byte("x")) },
			"nothing":               func() {},
		} {
			done(t, s, 1, f)
			if got := s.Changed(); len(got) != 0 {
				t.Errorf("%s, of kind %d: Changed %v", what, v.Kind, got)
			}
			wantValue(t, s, p, v)
			wantDeadline(t, s, p, 50)
		}
		for what, f := range map[string]func(){
			"without the deadline": func() { store(t, s, p, v) },
			"another deadline":     func() { s.SetDeadline(1, key, 51) },
			"no deadline":          func() { s.SetDeadline(1, key, 0) },
			"removed":              func() { s.Remove(1, key) },
			"due":                  func() { s.SetDeadline(1, key, 1) },
		} {
			done(t, s, 1, func() { store(t, s, p, v); s.SetDeadline(1, key, 50) })
			done(t, s, 1, f)
			if got := s.Changed(); len(got) != 1 || got[0] != p {
				t.Errorf("%s, of kind %d: Changed %v", what, v.Kind, got)
			}
		}
	}
}

// TestP10_7_EveryDifferenceCounts: pairs of values that differ in one thing alone.
func TestP10_7_EveryDifferenceCounts(t *testing.T) {
	values := []api.Value{
		text(""), text("a"), text("b"), text("a\x00"), text("ab"), text(wide(4096)), text(wide(4095) + "x"),
		list("a"), list("b"), list("a", "b"), list("b", "a"), list("a", "b", "b"), list("ab"), list("", "ab"), list("ab", ""), list(""),
		set("a"), set("b"), set("a", "b"), set("ab"), set("", "ab"), set(""),
		hash("a", "b"), hash("a", "c"), hash("b", "a"), hash("a", ""), hash("", "a"), hash("a", "b", "c", "d"), hash("a", "d", "c", "b"), hash("a", "b", "c", "D"),
		ranked(scored("a", 0)), ranked(scored("a", 1)), ranked(scored("a", -1)), ranked(scored("b", 0)), ranked(scored("a", 0), scored("b", 0)), ranked(scored("b", 0), scored("c", 0)), ranked(scored("a", 0), scored("b", 1)), ranked(scored("b", 0), scored("a", 1)),
	}
	s := made(t, 16384)
	for i, v := range values {
		for j, w := range values {
			done(t, s, 1, func() { store(t, s, at(0, "k"), v) })
			done(t, s, 1, func() { store(t, s, at(0, "k"), w) })
			if got := len(s.Changed()); (got == 1) != (i != j) {
				t.Errorf("%s behind %s: %d changed", show(w), show(v), got)
			}
			wantValue(t, s, at(0, "k"), w)
		}
	}
}

func TestP10_7_ChangesInPlaceCount(t *testing.T) {
	s := made(t, 2000)
	h := s.Heap()
	p := at(2, "k")
	for i, c := range []struct {
		v    api.Value
		f    func(ref uint64)
		want api.Value
	}{
		{text("abc"), func(ref uint64) { blob.Write(h, ref, 1, []byte("X")) }, text("aXc")},
		{list("a", "b"), func(ref uint64) {
			l, _ := chain.Open(h, ref)
			l.Set(1, []byte("B"))
			l.Close()
		}, list("a", "B")},
		{hash("a", "1", "b", "2"), func(ref uint64) {
			x, _ := table.Open(h, ref)
			under, _ := blob.New(h, []byte("3"))
			x.Put([]byte("a"), under, 0, 0)
			x.Close()
		}, hash("a", "3", "b", "2")},
		{set("a", "b"), func(ref uint64) {
			x, _ := table.Open(h, ref)
			x.Delete([]byte("a"))
			x.Put([]byte("c"), 0, 0, 0)
			x.Close()
		}, set("b", "c")},
		{ranked(scored("a", 1), scored("b", 2)), func(ref uint64) {
			r, _ := rank.Open(h, ref)
			r.Add([]byte("a"), 5, 2)
			r.Close()
		}, ranked(scored("b", 2), scored("a", 5))},
	} {
		done(t, s, 1, func() { store(t, s, p, c.v) })
		wantRun(t, s, 1, 9, func() { c.f(edit(t, s, p, c.v.Kind)); wantValue(t, s, p, c.want); s.Fail(9) })
		wantChanged(t, s)
		wantValue(t, s, p, c.v)
		done(t, s, 1, func() { c.f(edit(t, s, p, c.v.Kind)) })
		if got := s.Changed(); len(got) != 1 || got[0] != p {
			t.Errorf("row %d: Changed %v", i, got)
		}
		wantValue(t, s, p, c.want)
		wantCost(t, s)
	}
}

// TestP10_7_WhatWasDueAndComesBack: a key that went in step 1 has changed, whatever the Run lays there.
func TestP10_7_WhatWasDueAndComesBack(t *testing.T) {
	for _, deadline := range []uint64{0, 11, 500} {
		s := made(t, 2000)
		done(t, s, 1, func() { store(t, s, at(0, "k"), text("x")); s.SetDeadline(0, []byte("k"), 10) })
		done(t, s, 10, func() {
			store(t, s, at(0, "k"), text("x"))
			wantErr(t, "SetDeadline", s.SetDeadline(0, []byte("k"), deadline), api.OK)
		})
		wantChanged(t, s, at(0, "k"))
		wantDeadline(t, s, at(0, "k"), deadline)
		wantCost(t, s)
		done(t, s, 10, func() {})
		wantChanged(t, s)
	}
}
