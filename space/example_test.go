package space_test

import (
	"testing"

	"larder/api"
	"larder/chain"
	"larder/space"
)

// TestExamples: the chapter's table, row by row.
func TestExamples(t *testing.T) {
	s, e := space.New(256, 7)
	if e != api.OK {
		t.Fatalf("New: %d", e)
	}
	for _, quota := range []int{255, 16385} {
		if s, e := space.New(quota, 0); s != nil || e != api.ErrSpaceQuota {
			t.Errorf("New(%d, 0): %v, %d", quota, s, e)
		}
	}
	k, e1, f := []byte("k"), []byte("e"), []byte("f")
	abc := func() api.Reply {
		wantErr(t, "Store", s.Store(0, k, text("abc")), api.OK)
		wantErr(t, "SetDeadline", s.SetDeadline(0, k, 10), api.OK)
		return api.Status("OK")
	}
	for i, want := range [][]api.Place{{at(0, "k")}, {}} {
		r, e := s.Run(5, abc)
		if r.Kind != api.ReplyStatus || string(r.Text) != "OK" || e != api.OK || s.Clock() != 5 || s.Cost() != 30 {
			t.Errorf("row %d: %v, %d, clock %d, cost %d", i, r, e, s.Clock(), s.Cost())
		}
		wantChanged(t, s, want...)
	}
	wantRun(t, s, 4, api.ErrSpaceNone, func() {
		l, e := chain.Open(s.Heap(), edit(t, s, at(1, "l"), api.ValList))
		if e != api.OK {
			t.Fatalf("no list: %d", e)
		}
		wantErr(t, "Push", l.Push(false, []byte("x")), api.OK)
		l.Close()
		s.Fail(api.ErrSpaceNone)
	})
	if s.Clock() != 5 || s.Size(1) != 0 {
		t.Errorf("clock %d, size %d", s.Clock(), s.Size(1))
	}
	wantChanged(t, s)
	done(t, s, 9, func() {
		edit(t, s, at(1, "e"), api.ValSet)
		if kind, _ := s.Find(1, e1); kind != api.ValSet || s.Size(1) != 1 || s.CostOf(1, e1) != 67 {
			t.Errorf("inside: kind %d, size %d, cost %d", kind, s.Size(1), s.CostOf(1, e1))
		}
	})
	if s.Size(1) != 0 {
		t.Errorf("size %d", s.Size(1))
	}
	wantChanged(t, s)
	wantRun(t, s, 9, api.ErrSpaceFull, func() {
		store(t, s, at(2, "b"), text(wide(1900)))
		if s.Cost() != 297 {
			t.Errorf("inside: cost %d", s.Cost())
		}
	})
	if s.Size(2) != 0 {
		t.Errorf("size %d", s.Size(2))
	}
	r, e := s.Run(10, func() api.Reply { return api.Bad(api.BadKey) })
	if r.Kind != api.ReplyError || string(r.Text) != api.Text(api.BadKey) || e != api.OK || s.Cost() != 0 {
		t.Errorf("an error: %v, %d, cost %d", r, e, s.Cost())
	}
	wantChanged(t, s, at(0, "k"))
	done(t, s, 10, func() { wantErr(t, "SetDeadline", s.SetDeadline(0, k, 99), api.ErrSpaceNone) })
	done(t, s, 10, func() {
		store(t, s, at(0, "k"), list("a", "b"))
		for i, c := range []struct {
			db, db2 int
			key2    string
			want    bool
		}{{0, 0, "k", true}, {0, 3, "m", true}, {0, 3, "x", false}} {
			if got := s.Move(c.db, k, c.db2, []byte(c.key2)); got != c.want {
				t.Errorf("Move %d: %v", i, got)
			}
		}
	})
	wantChanged(t, s, at(3, "m"))
	done(t, s, 10, func() {
		edit(t, s, at(1, "e"), api.ValList)
		if !s.Move(1, e1, 1, f) {
			t.Error("Move: false")
		}
		wantErr(t, "SetDeadline", s.SetDeadline(1, f, 12), api.OK)
		keys := s.Keys(1)
		next, some := s.Scan(1, 0, 1)
		if len(keys) != 1 || string(keys[0]) != "f" || next != 0 || len(some) != 1 || string(some[0]) != "f" {
			t.Errorf("Keys %q, Scan %d, %q", keys, next, some)
		}
	})
	if s.Size(1) != 0 {
		t.Errorf("size %d", s.Size(1))
	}
	wantChanged(t, s)
	wantErr(t, "Store outside", s.Store(0, k, text("")), api.ErrSpaceIdle)
	if s.Remove(0, k) {
		t.Error("Remove outside: true")
	}
	wantNothing(t, s, at(0, "k"))
	if _, e := s.Value(4, k); e != api.ErrSpaceDB {
		t.Errorf("Value of database 4: %d", e)
	}
	s.Draw([]byte{1, 0, 0xff})
	for i, want := range []int{2, 1, 8, 1} {
		if got := s.Level(); got != want {
			t.Errorf("Level %d: %d, want %d", i, got, want)
		}
	}
}
