package text_test

import (
	"fmt"
	"slices"
	"testing"

	"larder/api"
	"larder/space"
	"larder/text"
)

// wantRoom holds the heap against what may lie there: no handle more, no word too many.
func wantRoom(t *testing.T, s *space.Space) {
	t.Helper()
	st := s.Heap().Stats()
	if n := 2*st.Half + st.Large; n > 16*s.Quota()+131072 {
		t.Errorf("the heap has %d words", n)
	}
	fresh := made(t, s.Quota())
	if want := fresh.Heap().Stats().Roots; st.Roots != want {
		t.Errorf("%d handles, want %d", st.Roots, want)
	}
	s.Heap().Collect()
	st = s.Heap().Stats()
	if cost := s.Cost(); st.Used+st.Large > cost+cost/64+256 {
		t.Errorf("%d words at a cost of %d", st.Used+st.Large, cost)
	}
}

// words8 is the cost of a text of n bytes, B(n).
func words8(n int) int { return 2 + (n+7)/8 }

// TestR10_TheQuotaToTheWord: what every command that lays something may cost, and what one word more does.
func TestR10_TheQuotaToTheWord(t *testing.T) {
	// Of quota 256 a key of one byte leaves 256 - 24 - 3 - 2 = 227 words of text: 1816 bytes.
	const most = 227 * 8
	full := wide(most)
	for _, c := range []struct{ fits, over []string }{
		{[]string{"SET", "k", full}, []string{"SET", "k", full + "w"}},
		{[]string{"SETNX", "k", full}, []string{"SETNX", "k", full + "w"}},
		{[]string{"SETEX", "k", "5", full}, []string{"SETEX", "k", "5", full + "w"}},
		{[]string{"PSETEX", "k", "5", full}, []string{"PSETEX", "k", "5", full + "w"}},
		{[]string{"GETSET", "k", full}, []string{"GETSET", "k", full + "w"}},
		{[]string{"MSET", "k", full}, []string{"MSET", "k", full + "w"}},
		{[]string{"MSETNX", "k", full}, []string{"MSETNX", "k", full + "w"}},
		{[]string{"APPEND", "k", full}, []string{"APPEND", "k", full + "w"}},
		{[]string{"SETRANGE", "k", fmt.Sprint(most - 1), "x"}, []string{"SETRANGE", "k", fmt.Sprint(most), "x"}},
		{[]string{"SETBIT", "k", fmt.Sprint(8*most - 1), "0"}, []string{"SETBIT", "k", fmt.Sprint(8 * most), "0"}},
		{[]string{"BITFIELD", "k", "SET", "u8", fmt.Sprint(8*most - 8), "1"}, []string{"BITFIELD", "k", "SET", "u8", fmt.Sprint(8*most - 7), "1"}},
		{[]string{"BITFIELD", "k", "INCRBY", "u8", fmt.Sprint(8*most - 8), "0"}, []string{"BITFIELD", "k", "OVERFLOW", "FAIL", "INCRBY", "u8", fmt.Sprint(8 * most), "256"}},
		{[]string{"MSET", "k", full + "w", "l", "1", "k", "", "l", wide(most - 29*8)}, []string{"MSET", "k", "", "l", wide(most - 29*8 + 1)}},
	} {
		s := made(t, 256)
		if got := told(text.Do(s, 0, 0, args(c.over...))); got != refusal(api.BadOOM) || s.Size(0) != 0 || s.Cost() != 0 {
			t.Errorf("%s: %s, %d keys", c.over[0], brief(got), s.Size(0))
		}
		wantRoom(t, s)
		if got := told(text.Do(s, 0, 0, args(c.fits...))); got[0] == '-' || s.Cost() != 256 {
			t.Errorf("%s: %s, cost %d", c.fits[0], brief(got), s.Cost())
		}
		before := picture(s)
		if got := told(text.Do(s, 0, 0, args("SET", "other", ""))); got != refusal(api.BadOOM) || picture(s) != before {
			t.Errorf("a key too many: %s", got)
		}
		wantRoom(t, s)
	}
}

// TestR10_AFullSpaceStillAnswers: what makes nothing dearer is carried out.
func TestR10_AFullSpaceStillAnswers(t *testing.T) {
	s := made(t, 256)
	const most = 256 - 24 - 3 - 2 // words of text under a key of one byte
	fill := row{"SET k " + wide(8*(most-29)), "OK"}
	play(t, s, 1000, row{"SET n 41", "OK"}, row{"DECR n", 40})
	play(t, s, 1000, row{"GETDEL n", `"40"`}, row{`SET n ""`, "OK"}, fill)
	if s.Cost() != 256 {
		t.Fatalf("cost %d", s.Cost())
	}
	play(t, s, 1000,
		row{"INCR n", api.BadInt}, row{"APPEND n x", api.BadOOM}, row{`APPEND n ""`, 0}, row{"STRLEN k", 8 * (most - 29)}, row{"BITOP OR n k", api.BadOOM}, row{"BITOP OR m none", 0}, row{"BITOP AND k k n", 8 * (most - 29)}, row{"BITCOUNT k", 0},
		row{"SETBIT k 0 1", 0}, row{"SETRANGE k 1 xyz", 8 * (most - 29)}, row{"APPEND k x", api.BadOOM}, row{"MSET n 1 k 2", "OK"}, row{"BITFIELD n SET u8 30000 1", api.BadOOM}, row{"BITFIELD n GET u8 30000", "[0]"}, row{"MGET n k", `["1" "2"]`})
	wantRoom(t, s)
}

// TestR10_WhatItCostsInTheMiddleDoesNotCount.
func TestR10_WhatItCostsInTheMiddleDoesNotCount(t *testing.T) {
	s := made(t, 256)
	play(t, s, 1000,
		row{"SET k " + wide(4096) + " PXAT 1000", "OK"}, row{"SET k " + wide(4096) + " EXAT 1 GET", "nil"}, row{"GET k", "nil"},
		row{"SET k v", "OK"}, row{"SET k " + wide(4096) + " PXAT 1 XX GET", `"v"`}, row{"GET k", "nil"},
		row{"MSET k " + wide(4096) + " k " + wide(4096) + " k v", "OK"}, row{"GET k", `"v"`},
		row{"MSET k v k " + wide(4096), api.BadOOM}, row{"MSETNX l " + wide(4096) + " l w", 1}, row{"MGET k l", `["v" "w"]`})
	wantRoom(t, s)
}

// TestR10_MSETAsGreatAsCanBe: in the smallest space as in the greatest, within the quota and far above it.
func TestR10_MSETAsGreatAsCanBe(t *testing.T) {
	name := func(i, n int) string { return fmt.Sprintf("%0*d", n, i) }
	for _, quota := range []int{api.MinQuota, 1000, api.MaxQuota} {
		for _, size := range []int{10, 500, api.MaxText} {
			s := made(t, quota)
			play(t, s, 0, row{"SET a 1", "OK"}, row{"SET b " + wide(min(2*quota, api.MaxText)), "OK"})
			for round := range 3 {
				command := []string{"MSET"}
				for i := range 63 {
					command = append(command, name(i, size), wide(size-round))
				}
				before, cost := picture(s), s.Cost()
				if round == 0 {
					cost += 63 * (24 + 2*words8(size))
				}
				got := told(text.Do(s, 0, 0, args(command...)))
				if cost > quota {
					if got != refusal(api.BadOOM) || picture(s) != before || len(s.Changed()) != 0 {
						t.Errorf("quota %d, texts of %d: %s", quota, size, brief(got))
					}
					wantRoom(t, s)
					break
				}
				if got != "OK" || s.Size(0) != 65 || len(s.Changed()) != 63 {
					t.Errorf("quota %d, texts of %d: %s, %d keys", quota, size, brief(got), s.Size(0))
				}
				wantRoom(t, s)
			}
		}
	}
}

// TestR10_MSETTurnsAFullSpaceOver: all that is there goes, and as much comes.
func TestR10_MSETTurnsAFullSpaceOver(t *testing.T) {
	s := made(t, api.MaxQuota)
	long, short := []string{"MSET"}, []string{"MSET"}
	for i := range 62 {
		n, m := 3700, 10
		if i%2 == 0 {
			n, m = m, n
		}
		long = append(long, fmt.Sprint(i), wide(n))
		short = append(short, fmt.Sprint(i), wide(m))
	}
	text.Do(s, 0, 0, args(long...))
	for i := range 20 {
		command := [][]string{short, long}[i%2]
		if got := told(text.Do(s, 0, 0, args(command...))); got != "OK" || len(s.Changed()) != 62 {
			t.Fatalf("MSET: %s, %d changed", got, len(s.Changed()))
		}
		wantRoom(t, s)
	}
	command := slices.Clone(long)
	for i := 2; i < len(command); i += 2 {
		command[i] = wide(3700)
	}
	before := picture(s)
	if got := told(text.Do(s, 0, 0, args(command...))); got != refusal(api.BadOOM) || picture(s) != before {
		t.Errorf("MSET: %s", got)
	}
	wantRoom(t, s)
}

// TestR1_AHeapThatSomebodyElseHasFilled: nothing is promised then but that every call ends; what can't be laid down is refused.
func TestR1_AHeapThatSomebodyElseHasFilled(t *testing.T) {
	s := made(t, 256)
	play(t, s, 0, row{"SET k v", "OK"})
	for size := 1 << 16; size > 0; size /= 2 {
		for {
			ref, e := s.Heap().Alloc(api.KindBlob, 0, size)
			if e != api.OK {
				break
			}
			s.Heap().Root(ref)
		}
	}
	play(t, s, 0, row{"SET n " + wide(1000), api.BadOOM}, row{"SETBIT k 8000 1", api.BadOOM}, row{"GET k", `"v"`}, row{"GETDEL k", `"v"`})
}
