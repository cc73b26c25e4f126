package record_test

import (
	"bytes"
	"fmt"
	"slices"
	"testing"

	"larder/api"
	"larder/record"
	"larder/space"
	"larder/word"
)

func TestP16_8_Examples(t *testing.T) {
	snap := record.Dump(made(t, 1000), 0)
	s, seq := loaded(t, 1000, snap)
	if picture(s) != "" || s.Clock() != 0 || seq != 0 {
		t.Errorf("a new space's: %s, %d", picture(s), seq)
	}
	wantRefused(t, "quota 3", 3, snap, api.ErrSpaceQuota)
	wantNone(t, "47 bytes", snap[:47])
	s, seq = loaded(t, 1000, nil)
	if picture(s) != "" || s.Clock() != 0 || seq != 0 {
		t.Errorf("of no bytes: %s, %d", picture(s), seq)
	}
	s = given(t, 1000, 0, "SET k "+long(2080), "DEL none")
	if s.Cost() < 256 || s.Cost() > 300 {
		t.Fatalf("cost %d", s.Cost())
	}
	wantRefused(t, "too much", 256, record.Dump(s, 0), api.ErrRecordRoom)
}

func TestP16_8_WhatIsThere(t *testing.T) {
	was := given(t, 4000, 7, rich...)
	was.Draw([]byte{0xff, 0xff, 0xff})
	snap := record.Dump(was, 9)
	for _, seed := range []uint64{0, 1, seed, 1 << 63, 1<<64 - 1} {
		s, seq, e := record.Load(3000, seed, snap)
		if e != api.OK || seq != 9 || s.Clock() != 7 || s.Quota() != 3000 || s.Seed() != seed {
			t.Fatalf("seed %d: %d, %d, clock %d", seed, e, seq, s.Clock())
		}
		if picture(s) != picture(was) || s.Cost() != was.Cost() {
			t.Errorf("seed %d: %s, want %s", seed, picture(s), picture(was))
		}
		wantOwn(t, s)
		for range 3 {
			if s.Level() != 1 {
				t.Error("it has draws")
			}
		}
		wantScan(t, s, seed)
	}
}

// wantScan asks that the tables have the seed that Load was given: keys and members come in that hash order.
func wantScan(t *testing.T, s *space.Space, seed uint64) {
	t.Helper()
	fresh, _ := space.New(4000, seed)
	give(t, fresh, 7, rich...)
	for _, l := range []string{"SCAN 0 COUNT 100", "HSCAN h 0 COUNT 100", "SSCAN s 0 COUNT 100", "ZSCAN z 0 COUNT 100", "@2 SCAN 0"} {
		if got, want := fmt.Sprint(try(s, 7, l)), fmt.Sprint(try(fresh, 7, l)); got != want {
			t.Errorf("seed %d: %s: %s, want %s", seed, l, got, want)
		}
	}
}

// wantOwn asks for what a space's heap keeps to: its own handles, the floor and the ceiling, its limit.
func wantOwn(t *testing.T, s *space.Space) {
	t.Helper()
	fresh, _ := space.New(s.Quota(), s.Seed())
	s.Heap().Collect()
	stats := s.Heap().Stats()
	if want := fresh.Heap().Stats(); stats.Roots != want.Roots || stats.Limit != want.Limit {
		t.Errorf("%d handles, limit %d, want %d, %d", stats.Roots, stats.Limit, want.Roots, want.Limit)
	}
	if words, most := stats.Used+stats.Large, s.Cost()+s.Cost()/64+256; words < floor(s) || words > most {
		t.Errorf("%d words, floor %d, ceiling %d", words, floor(s), most)
	}
}

// floor is the words of all texts of a space.
func floor(s *space.Space) int {
	sum := 0
	for db := range 4 {
		for _, key := range s.Keys(db) {
			v, _ := s.Value(db, key)
			all := append([][]byte{key, v.Text}, v.List...)
			for _, p := range v.Pairs {
				all = append(all, p.Field, p.Value)
			}
			for _, m := range v.Ranked {
				all = append(all, m.Member)
			}
			for _, b := range all {
				sum += word.Words(len(b))
			}
		}
	}
	return sum
}

// TestP16_8_TheErrorsInOrder: the quota, what is no snapshot, the room.
func TestP16_8_TheErrorsInOrder(t *testing.T) {
	great := shot{keys: [4][]held{{{"a", 0, 2, counted(slices.Repeat([]string{long(100)}, 1000)...)}}}}
	wrong := great
	wrong.keys[3] = []held{{"b", 0, 2, counted()}}
	for _, quota := range []int{-1 << 63, -1, 0, 3, 255, 16385, 1<<63 - 1} {
		for _, snap := range [][]byte{nil, {}, []byte("x"), shot{}.bytes(), great.bytes(), wrong.bytes()} {
			wantRefused(t, "no quota", quota, snap, api.ErrSpaceQuota)
		}
	}
	for _, quota := range []int{256, 4000, 16384} {
		wantRefused(t, "no snapshot", quota, []byte("x"), api.ErrRecordSnap)
		wantRefused(t, "no snapshot, too much", quota, wrong.bytes(), api.ErrRecordSnap)
		wantRefused(t, "too much", quota, great.bytes(), api.ErrRecordRoom)
		for _, snap := range [][]byte{nil, {}, shot{}.bytes(), {}} {
			if s, seq := loaded(t, quota, snap); seq != 0 || s.Quota() != quota || picture(s) != "" {
				t.Errorf("quota %d: %d", quota, seq)
			}
		}
	}
}

// TestP16_8_Room: what costs the quota is taken, what costs one word more is not.
func TestP16_8_Room(t *testing.T) {
	for what, x := range map[string]shot{
		"a text":       {keys: [4][]held{{{"k", 0, 1, text(long(2000))}}}},
		"texts":        {keys: [4][]held{{{"k", 0, 1, text(long(900))}}, nil, {{"k", 0, 1, text(long(900))}}, {{"k", 0, 1, text("")}}}},
		"a list":       {keys: [4][]held{{{"k", 0, 2, counted(slices.Repeat([]string{"x", ""}, 20)...)}}}},
		"a hash":       {keys: [4][]held{nil, {{"k", 0, 3, pairs("a", long(500), "b", long(500), "c", long(500))}}}},
		"a set":        {keys: [4][]held{nil, {{"k", 0, 4, counted("a", "b", "c", long(1700))}}}},
		"a ranked set": {keys: [4][]held{nil, nil, {{"k", 0, 5, ranked("1", "a", "2", "b", "3", "c", "3", long(333))}}}},
		"deadlines":    {keys: [4][]held{{{"a", 1, 1, text(long(900))}, {"b", latest, 1, text(long(900))}}}},
	} {
		s, _ := loaded(t, plenty, x.bytes())
		cost := s.Cost()
		if cost <= 256 {
			t.Fatalf("%s costs %d", what, cost)
		}
		s, _ = loaded(t, cost, x.bytes())
		if s.Cost() != cost {
			t.Errorf("%s costs %d and %d", what, cost, s.Cost())
		}
		wantDump(t, what, s, 0, x.bytes())
		wantOwn(t, s)
		wantRefused(t, what, cost-1, x.bytes(), api.ErrRecordRoom)
	}
}

// TestP16_8_FullSpaces: whatever a quota allows is taken, of each kind, up to the greatest quota.
func TestP16_8_FullSpaces(t *testing.T) {
	for _, quota := range []int{256, 5000, 16384} {
		for _, l := range []string{"SET <> x", "RPUSH l <>", "HSET h <> <>", "SADD s <>", "ZADD z 5 <>", "SET <> " + long(2040), "RPUSH <> " + long(1000), "HSET l <> " + long(700), "ZADD <> 1 <>", "SADD l " + long(99) + "<>"} {
			s := made(t, quota)
			for i := 0; ; i++ {
				command := bytes.ReplaceAll([]byte(l), []byte("<>"), fmt.Appendf(nil, "%d", i*7919%100000))
				if r := try(s, 0, string(command)); r.Kind == api.ReplyError {
					break
				}
			}
			if s.Cost() < quota-600 {
				t.Fatalf("%s: it costs %d of %d", l, s.Cost(), quota)
			}
			again, _, e := record.Load(quota, 99, record.Dump(s, 0))
			if e != api.OK {
				t.Errorf("quota %d, %s: %d", quota, l, e)
				continue
			}
			if picture(again) != picture(s) || again.Cost() != s.Cost() {
				t.Errorf("quota %d, %s: it is another", quota, l)
			}
			wantOwn(t, again)
		}
	}
}

// TestP16_8_FarTooMuch: snapshots of what no heap here could hold.
func TestP16_8_FarTooMuch(t *testing.T) {
	var names, pairsOf, scores []string
	var keys []held
	for i := range 60000 {
		name := fmt.Sprintf("%06d", i)
		names = append(names, name)
		pairsOf = append(pairsOf, name, "")
		scores = append(scores, "1", name)
		keys = append(keys, held{name, 0, 1, text("")})
	}
	for what, x := range map[string]shot{
		"a list":       {keys: [4][]held{{{"k", 0, 2, counted(names...)}}}},
		"a hash":       {keys: [4][]held{{{"k", 0, 3, pairs(pairsOf...)}}}},
		"a set":        {keys: [4][]held{{{"k", 0, 4, counted(names...)}}}},
		"a ranked set": {keys: [4][]held{{{"k", 0, 5, ranked(scores...)}}}},
		"keys":         {keys: [4][]held{3: keys}},
	} {
		for _, quota := range []int{256, 16384} {
			wantRefused(t, what, quota, x.bytes(), api.ErrRecordRoom)
		}
	}
}

// TestP16_8_TheSpaceLives: deadlines come, commands are carried out, the quota holds.
func TestP16_8_TheSpaceLives(t *testing.T) {
	was := given(t, 4000, 7, rich...)
	s, _ := loaded(t, 4000, record.Dump(was, 9))
	for i, l := range []string{"GET k", "PTTL k", "RPUSH l q", "ZADD z 3 new 2 r", "HSET h x 5", "SREM s m n \"\"", "LPOP l", "@3 PTTL l", "SET big " + long(4000), "SORT l ALPHA STORE to", "@2 GET \"\\xff\"", "KEYS *", "GET k", "DBSIZE", "FLUSHALL", "MEMORY USED", "SET big " + long(4000)} {
		now := uint64(7 + i)
		if l == "GET k" && i > 0 {
			now = 20
		}
		if got, want := fmt.Sprint(try(s, now, l)), fmt.Sprint(try(was, now, l)); got != want {
			t.Errorf("%s: %s, want %s", l, got, want)
		}
		if fmt.Sprint(s.Changed()) != fmt.Sprint(was.Changed()) || s.Cost() != was.Cost() || picture(s) != picture(was) {
			t.Errorf("%s: changed %v, want %v", l, s.Changed(), was.Changed())
		}
	}
	x := shot{0, 7, [4][]held{{{"a", 8, 1, text("x")}, {"b", 9, 1, text("x")}}}}
	s, _ = loaded(t, 256, x.bytes())
	for now, want := range []int{2, 2, 2, 2, 2, 2, 2, 2, 1, 0} {
		try(s, uint64(now), "TIME")
		if s.Size(0) != want {
			t.Errorf("at %d: %d keys, want %d", now, s.Size(0), want)
		}
	}
}

// TestP16_8_SpacesShareNothing: two spaces of one snapshot.
func TestP16_8_SpacesShareNothing(t *testing.T) {
	snap := richShot().bytes()
	a, _ := loaded(t, 4000, snap)
	b, _ := loaded(t, 4000, snap)
	give(t, a, 1000, "FLUSHALL", "SET k other")
	wantDump(t, "the second", b, 9, snap)
}

func TestP16_9_DumpOfLoad(t *testing.T) {
	for _, x := range []shot{{}, {seq: greatest, clock: latest}, richShot(), two("", "x"), one(held{"k", 0, 5, ranked("1", "a", "2", "b")})} {
		for _, quota := range []int{1000, 16384} {
			s, seq := loaded(t, quota, x.bytes())
			if uint64(seq) != x.seq {
				t.Errorf("number %d, want %d", seq, x.seq)
			}
			for range 2 {
				wantDump(t, "of what was loaded", s, seq, x.bytes())
				s.Heap().Collect()
			}
			if other := record.Dump(s, seq/2+1); bytes.Equal(other, x.bytes()) && seq != seq/2+1 {
				t.Error("another number, the same bytes")
			}
		}
	}
}
