package space_test

import (
	"bytes"
	"slices"
	"testing"

	"larder/api"
)

// spoil writes over a list and its spare room.
func spoil(b []byte) {
	b = b[:cap(b)]
	for i := range b {
		b[i] = 0xee
	}
}

// spoilAll writes over all that an answer holds.
func spoilAll(v api.Value) {
	spoil(v.Text)
	for _, b := range v.List {
		spoil(b)
	}
	for _, p := range v.Pairs {
		spoil(p.Field)
		spoil(p.Value)
	}
	for _, m := range v.Ranked {
		spoil(m.Member)
	}
	clear(v.List[:cap(v.List)])
	clear(v.Pairs[:cap(v.Pairs)])
	clear(v.Ranked[:cap(v.Ranked)])
}

func TestR2_AnswersAreNewMemory(t *testing.T) {
	s := filled(t)
	before := picture(s)
	for i := range 5 {
		key := []byte{byte('0' + i)}
		kept, _ := s.Value(0, key)
		other, _ := s.Value(0, key)
		want := show(kept)
		spoilAll(other)
		if show(kept) != want {
			t.Errorf("two answers of Value share memory: %s", show(kept))
		}
	}
	// Within one answer.
	parts := func(v api.Value) [][]byte {
		all := slices.Clone(v.List)
		all = append(all, v.Text)
		for _, p := range v.Pairs {
			all = append(all, p.Field, p.Value)
		}
		for _, m := range v.Ranked {
			all = append(all, m.Member)
		}
		return all
	}
	for i := range 5 {
		key := []byte{byte('0' + i)}
		want, _ := s.Value(0, key)
		got, _ := s.Value(0, key)
		for i, b := range parts(got) {
			spoil(b)
			for j, c := range parts(got)[i+1:] {
				if !bytes.Equal(c, parts(want)[i+1+j]) {
					t.Errorf("two texts of one answer share memory")
				}
			}
		}
	}
	keys := s.Keys(0)
	_, some := s.Scan(0, 0, 9)
	for _, l := range [][][]byte{keys, some} {
		for i, b := range l {
			spoil(b)
			for j, c := range l[i+1:] {
				if bytes.Contains(c, []byte{0xee}) {
					t.Errorf("keys %d and %d of one answer share memory", i, i+1+j)
				}
			}
		}
		clear(l[:cap(l)])
	}
	wantPicture(t, s, "answers are written over", before)
	done(t, s, 6, func() { store(t, s, at(2, "a"), text("x")); store(t, s, at(3, "b"), text("x")) })
	c := s.Changed()
	clear(c[:cap(c)])
	wantChanged(t, s, at(2, "a"), at(3, "b"))
}

// TestR2_AnswersFromInsideARunStay: what was told ahead of a change is not changed with it, nor is what the space keeps for undoing.
func TestR2_AnswersFromInsideARunStay(t *testing.T) {
	s := filled(t)
	before := picture(s)
	wantRun(t, s, 6, 9, func() {
		for i, want := range kinds() {
			key := []byte{byte('0' + i)}
			kept, _ := s.Value(0, key)
			other, _ := s.Value(0, key)
			edit(t, s, at(0, string(key)), want.Kind)
			spoilAll(other)
			s.Remove(0, key)
			if show(kept) != show(want) {
				t.Errorf("an answer has changed: %s", show(kept))
			}
		}
		s.Fail(9)
	})
	wantPicture(t, s, "undone", before)
}

func TestR2_ArgumentsStayAndAreNotKept(t *testing.T) {
	s := made(t, 4000)
	key := append(make([]byte, 0, 32), "the key"...)
	key2 := append(make([]byte, 0, 32), "another"...)
	values := []api.Value{text("abc"), list("c", "a", "b"), hash("y", "1", "x", "2"), set("n", "m"), ranked(scored("q", 2), scored("p", 2), scored("r", -1))}
	want := []api.Value{text("abc"), list("c", "a", "b"), hash("x", "2", "y", "1"), set("m", "n"), ranked(scored("r", -1), scored("p", 2), scored("q", 2))}
	for i, v := range values {
		was := show(v)
		done(t, s, 1, func() {
			store(t, s, at(0, "the key"), v)
			s.Edit(0, key, v.Kind)
			s.SetDeadline(0, key, 50)
			s.Move(0, key, 1, key2)
			s.Move(1, key2, 0, key)
			s.Find(0, key)
			s.Value(0, key)
			s.CostOf(0, key)
			s.Store(0, key, v)
		})
		if show(v) != was || string(key[:8:32]) != "the key\x00" || string(key2[:8:32]) != "another\x00" {
			t.Errorf("an argument has changed: %s, %q", show(v), key)
		}
		spoilAll(v)
		spoil(key)
		wantValue(t, s, at(0, "the key"), want[i])
		wantChanged(t, s, at(0, "the key"))
		copy(key, "the key\x00")
		clear(key[7:32])
		done(t, s, 1, func() { s.Remove(0, key) })
	}
	draws := []byte{1, 3, 7}
	s.Draw(draws[:2])
	spoil(draws)
	wantLevels(t, s, 2, 3, 1)
	s.Draw(make([]byte, 1, 9))
	s.Draw([]byte{1})
	wantLevels(t, s, 1, 2, 1)
}

// TestR3_NilAndEmptyAreTheSame.
func TestR3_NilAndEmptyAreTheSame(t *testing.T) {
	s := made(t, 2000)
	done(t, s, 1, func() {
		store(t, s, at(0, ""), api.Value{Kind: api.ValText})
		store(t, s, at(1, ""), api.Value{Kind: api.ValText, Text: []byte{}})
		store(t, s, at(2, ""), api.Value{Kind: api.ValList, List: [][]byte{nil, {}}})
		store(t, s, at(3, ""), api.Value{Kind: api.ValHash, Pairs: []api.Pair{{}}})
		if e := s.Store(3, nil, api.Value{Kind: api.ValSet, List: [][]byte{nil, {}}}); e != api.ErrSpaceValue {
			t.Errorf("a set of the empty member twice: %d", e)
		}
	})
	done(t, s, 1, func() {
		store(t, s, at(0, ""), api.Value{Kind: api.ValText, Text: []byte{}})
		store(t, s, at(1, ""), api.Value{Kind: api.ValText})
		s.Store(2, nil, api.Value{Kind: api.ValList, List: [][]byte{{}, nil}})
		s.Store(3, []byte{}, hash("", ""))
	})
	wantChanged(t, s)
	for db := range api.MaxDB {
		if s.CostOf(db, nil) != s.CostOf(db, []byte{}) || s.CostOf(db, nil) == 0 {
			t.Errorf("database %d: cost %d", db, s.CostOf(db, nil))
		}
	}
	done(t, s, 1, func() {
		for _, v := range []api.Value{{Kind: api.ValList, List: [][]byte{}}, {Kind: api.ValHash, Pairs: []api.Pair{}}, {Kind: api.ValSet}, {Kind: api.ValRank, Ranked: []api.Scored{}}} {
			store(t, s, at(0, ""), v)
			wantNothing(t, s, at(0, ""))
		}
	})
}
