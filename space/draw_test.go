package space_test

import (
	"testing"

	"larder/api"
	"larder/space"
)

func wantLevels(t *testing.T, s *space.Space, want ...int) {
	t.Helper()
	for i, w := range want {
		if got := s.Level(); got != w {
			t.Errorf("Level %d: %d, want %d", i, got, w)
		}
	}
}

func TestP10_18_Level(t *testing.T) {
	s := made(t, 256)
	wantLevels(t, s, 1, 1)
	for b := range 256 {
		want := 1
		for bit := 1; bit < 256 && b&bit != 0; bit *= 2 {
			want++
		}
		s.Draw([]byte{byte(b)})
		wantLevels(t, s, min(want, 8), 1)
	}
	s.Draw(nil)
	s.Draw([]byte{1})
	s.Draw([]byte{})
	s.Draw([]byte{3, 7})
	wantLevels(t, s, 2)
	s.Draw([]byte{0xff, 0x7f})
	wantLevels(t, s, 3, 4, 8, 8, 1, 1)
}

func TestP10_18_AtMostSoManyDraws(t *testing.T) {
	s := made(t, 256)
	many := make([]byte, api.MaxDraws+10)
	for i := range many {
		many[i] = byte(1 + 2*(i%2)) // levels 2 and 3 by turns
	}
	for _, first := range []int{0, 1, 100, api.MaxDraws - 1, api.MaxDraws} {
		s.Draw(many[:first])
		s.Draw(many[:])
		s.Draw([]byte{0xff})
		for i := range api.MaxDraws {
			place := i
			if i >= first {
				place = i - first
			}
			wantLevels(t, s, 2+place%2)
		}
		wantLevels(t, s, 1, 1)
	}
	// Room comes back as draws are taken.
	s.Draw(many)
	wantLevels(t, s, 2, 3, 2)
	s.Draw([]byte{0xff, 0, 0xff, 0xff})
	for i := 3; i < api.MaxDraws; i++ {
		wantLevels(t, s, 2+i%2)
	}
	wantLevels(t, s, 8, 1, 8, 1)
}

// TestP10_18_WhatTakesNoDraws: Store of a ranked set aside, no call takes one, nor does undoing, of ranked sets too.
func TestP10_18_WhatTakesNoDraws(t *testing.T) {
	s := filled(t)
	s.Run(6, nil)
	s.Draw([]byte{1, 3, 7})
	done(t, s, 6, func() {
		for i, v := range kinds()[:4] {
			store(t, s, at(2, string(rune('a'+i))), v)
		}
		edit(t, s, at(2, "r"), api.ValRank)
		s.Bind(2, []byte("m"), api.ValRank, makeAt(t, s.Heap(), kinds()[4]))
		s.Move(2, []byte("m"), 3, []byte("m"))
		s.SetDeadline(3, []byte("m"), 30)
		s.Remove(2, []byte("a"))
		s.Value(0, []byte("4"))
		s.Cost()
	})
	wantRun(t, s, 6, 9, func() {
		s.Remove(0, []byte("4"))
		s.Remove(3, []byte("m"))
		s.Fail(9)
	})
	s.Run(30, func() api.Reply { upset(t, s); return api.Bad(api.BadKey) })
	wantLevels(t, s, 2, 3, 4, 1)
	// Draws that were taken stay taken, whatever becomes of the Run.
	s.Draw([]byte{1, 3, 7})
	wantRun(t, s, 31, 9, func() { wantLevels(t, s, 2, 3); s.Fail(9) })
	wantLevels(t, s, 4, 1)
}
