package rows_test

import (
	"fmt"
	"slices"
	"strings"
	"testing"

	"larder/api"
	"larder/rows"
	"larder/space"
)

// wantRoom holds the heap against what may lie there: no handle more, no word too many.
func wantRoom(t *testing.T, s *space.Space) {
	t.Helper()
	st := s.Heap().Stats()
	if n := 2*st.Half + st.Large; n > 16*s.Quota()+131072 {
		t.Errorf("the heap has %d words", n)
	}
	fresh := made(t, s.Quota())
	if want := fresh.Heap().Stats().Roots; st.Roots != want {
		t.Errorf("%d handles, want %d", st.Roots, want)
	}
	s.Heap().Collect()
	st = s.Heap().Stats()
	if cost := s.Cost(); st.Used+st.Large > cost+cost/64+256 {
		t.Errorf("%d words at a cost of %d", st.Used+st.Large, cost)
	}
}

// words8 is the cost of a text of n bytes, B(n).
func words8(n int) int { return 2 + (n+7)/8 }

// TestP12_5_TheQuotaToTheWord: what every command that lays something may cost, and what one word more does.
func TestP12_5_TheQuotaToTheWord(t *testing.T) {
	// Of quota 256 a list of one byte's key costs 24 + 3 + 8; of what is left, 221 words, one element x takes 9, and one of 204 words all the rest.
	const most = 204 * 8
	full := wide(most)
	for _, c := range []struct{ fits, over []string }{
		{[]string{"LPUSH", "l", full}, []string{"LPUSH", "l", full + "w"}},
		{[]string{"RPUSH", "l", full}, []string{"RPUSH", "l", full + "w"}},
		{[]string{"LPUSHX", "l", full}, []string{"LPUSHX", "l", full + "w"}},
		{[]string{"RPUSHX", "l", full}, []string{"RPUSHX", "l", full + "w"}},
		{[]string{"RPUSH", "l", "", wide(most - 8*8)}, []string{"RPUSH", "l", "", wide(most - 8*8 + 1)}},
		{[]string{"LINSERT", "l", "BEFORE", "x", full}, []string{"LINSERT", "l", "BEFORE", "x", full + "w"}},
		{[]string{"LINSERT", "l", "AFTER", "x", full}, []string{"LINSERT", "l", "AFTER", "x", full + "w"}},
		{[]string{"LSET", "l", "0", wide(most + 9*8)}, []string{"LSET", "l", "0", wide(most + 9*8 + 1)}},
	} {
		s := made(t, 256)
		store(t, s, "l", listOf("x"), 40)
		before := picture(s)
		if got := told(rows.Do(s, 0, 0, args(c.over...))); got != refusal(api.BadOOM) || picture(s) != before || s.Cost() != 44 || len(s.Changed()) != 0 {
			t.Errorf("%s: %s, cost %d", c.over[0], brief(got), s.Cost())
		}
		wantRoom(t, s)
		if got := told(rows.Do(s, 0, 0, args(c.fits...))); got[0] == '-' || s.Cost() != 256 {
			t.Errorf("%s: %s, cost %d", c.fits[0], brief(got), s.Cost())
		}
		before = picture(s)
		play(t, s, 0, row{`RPUSH other ""`, api.BadOOM}, row{`LPUSH l ""`, api.BadOOM}, row{"RPOPLPUSH l long-name", api.BadOOM})
		if picture(s) != before {
			t.Errorf("%s: a refused command has changed something", c.fits[0])
		}
		wantRoom(t, s)
	}
}

// TestP12_5_TheLongestElements: one of MaxText bytes is taken wherever the quota has room.
func TestP12_5_TheLongestElements(t *testing.T) {
	s := made(t, api.MaxQuota)
	long, longer := wide(api.MaxText), wide(api.MaxText+1)
	play(t, s, 0,
		row{"RPUSH l " + long + " a", 2}, row{"LPUSH l " + long, 3}, row{"LSET l 2 " + long, "OK"}, row{"LINSERT l AFTER " + long + " " + long, 4}, row{"LPOS l " + long + " COUNT 0", "[0 1 2 3]"}, row{"LMOVE l " + long + " LEFT LEFT", `"` + long + `"`}, row{"LREM l 1 " + long, 1}, row{"LLEN l", 2}, row{"LMPOP 1 " + long + " LEFT", `["` + long + `" ["` + long + `"]]`},
		row{"RPUSH l " + longer, api.BadLong}, row{"LSET l 0 " + longer, api.BadLong}, row{"LINSERT l AFTER a " + longer, api.BadLong}, row{"LREM l 0 " + longer, api.BadLong}, row{"LPOS l " + longer, api.BadLong}, row{"LLEN " + longer, api.BadLong})
	wantRoom(t, s)
}

// TestR10_AFullSpaceStillAnswers: what makes nothing dearer is carried out.
func TestR10_AFullSpaceStillAnswers(t *testing.T) {
	s := made(t, 256)
	// Two lists cost 35 each; 186 words are left for elements: 14 of 9 words, and 6 of 10.
	store(t, s, "a", listOf(strings.Repeat("x ", 14)), 0)
	store(t, s, "b", listOf(strings.Repeat("nine-byte ", 6)), 0)
	if s.Cost() != 256 {
		t.Fatalf("cost %d", s.Cost())
	}
	play(t, s, 0,
		row{"LMOVE a b LEFT RIGHT", `"x"`}, row{"LMOVE b a LEFT RIGHT", `"nine-byte"`}, row{"LMOVE a c LEFT RIGHT", api.BadOOM}, row{"RPOPLPUSH a a", `"nine-byte"`}, row{"LSET a 1 eight-by", "OK"}, row{"LSET a 1 nine-byte", api.BadOOM}, row{"LINSERT a AFTER x y", api.BadOOM}, row{"LINSERT a AFTER none y", -1}, row{`RPUSHX a ""`, api.BadOOM}, row{"RPUSHX c y", 0}, row{"LLEN a", 14}, row{"LPOS a x COUNT 2", "[2 3]"}, row{"LREM b 1 x", 1}, row{"RPUSH b y", 6}, row{"LTRIM a 0 -1", "OK"}, row{"LSET a 0 y", "OK"}, row{"LSET a 1 nine-byte", "OK"}, row{"LSET a 2 nine-byte", api.BadOOM})
	if s.Cost() != 256 {
		t.Errorf("cost %d", s.Cost())
	}
	wantRoom(t, s)
}

// TestR10_WhatItCostsInTheMiddleDoesNotCount: a list that goes leaves its room to the one that comes.
func TestR10_WhatItCostsInTheMiddleDoesNotCount(t *testing.T) {
	s := made(t, 256)
	full := wide((256 - 24 - 3 - 8 - 6 - 2) * 8)
	play(t, s, 0, row{"RPUSH l " + full, 1})
	if s.Cost() != 256 {
		t.Fatalf("cost %d", s.Cost())
	}
	for _, key := range []string{"m", "n", "l"} {
		from := map[string]string{"m": "l", "n": "m", "l": "n"}[key]
		play(t, s, 0, row{"RPOPLPUSH " + from + " " + key, `"` + full + `"`})
		wantGone(t, s, from)
		wantList(t, s, key, full)
		wantRoom(t, s)
	}
	play(t, s, 0, row{"RPOPLPUSH l long-name", api.BadOOM}, row{"LMOVE l l LEFT RIGHT", `"` + full + `"`}, row{"LSET l 0 " + strings.ToUpper(full), "OK"})
	wantRoom(t, s)
}

// TestR10_PushesAsGreatAsCanBe: in the smallest space as in the greatest, within the quota and far above it.
func TestR10_PushesAsGreatAsCanBe(t *testing.T) {
	for _, quota := range []int{api.MinQuota, 1000, api.MaxQuota} {
		for _, size := range []int{0, 10, 500, 900, api.MaxText} {
			for _, name := range []string{"RPUSH", "LPUSH"} {
				s := made(t, quota)
				store(t, s, "b", listOf("a "+wide(min(2*quota, api.MaxText))), 40)
				command := []string{name, "l"}
				for i := range 126 {
					command = append(command, fmt.Sprintf("%0*d", size, i)[:size])
				}
				for range 3 {
					before, cost := picture(s), s.Cost()
					if s.Size(0) == 1 {
						cost += 24 + 3 + 8
					}
					cost += 126 * (6 + words8(size))
					got := told(rows.Do(s, 0, 0, args(command...)))
					if cost > quota && (got != refusal(api.BadOOM) || picture(s) != before || len(s.Changed()) != 0) {
						t.Errorf("quota %d, elements of %d: %s", quota, size, brief(got))
					}
					if cost <= quota && (got[0] == '-' || s.Cost() != cost || len(s.Changed()) != 1) {
						t.Errorf("quota %d, elements of %d: %s, cost %d, want %d", quota, size, brief(got), s.Cost(), cost)
					}
					wantRoom(t, s)
				}
			}
		}
	}
}

// TestR10_AFullSpaceTurnsAbout: lists that fill the greatest space are moved, cut and filled again.
func TestR10_AFullSpaceTurnsAbout(t *testing.T) {
	s := made(t, api.MaxQuota)
	element := wide(3960) // 6 + 2 + 495 words
	n := (api.MaxQuota - 2*35) / 503
	for range n {
		do(s, 0, "RPUSH a "+element)
	}
	if got := told(do(s, 0, "LLEN a")); got != fmt.Sprint(n) {
		t.Fatalf("LLEN: %s", got)
	}
	for range 3 {
		for i := range n {
			same := wide(3953 + i%8) // as many words
			play(t, s, 0, row{"LMOVE a b LEFT RIGHT", `"` + element + `"`}, row{"LSET b 0 " + same, "OK"}, row{"LMOVE b b LEFT RIGHT", `"` + same + `"`}, row{"LSET b -1 " + element, "OK"})
		}
		wantGone(t, s, "a")
		wantRoom(t, s)
		r := do(s, 0, "LMPOP 1 b RIGHT COUNT 999")
		if len(r.List) != 2 || len(r.List[1].List) != n || s.Cost() != 0 {
			t.Fatalf("LMPOP: %s, cost %d", brief(told(r)), s.Cost())
		}
		play(t, s, 0, row{"RPUSH a" + strings.Repeat(" "+element, n), n})
	}
	before := picture(s)
	play(t, s, 0, row{"RPUSH a" + strings.Repeat(" "+wide(4096), 126), api.BadOOM}, row{"LINSERT a BEFORE " + element + " " + element, api.BadOOM})
	if picture(s) != before {
		t.Error("a refused command has changed something")
	}
	wantRoom(t, s)
}

// TestR1_AHeapThatSomebodyElseHasFilled: nothing is promised then but that every call ends; what can't be laid down is refused.
func TestR1_AHeapThatSomebodyElseHasFilled(t *testing.T) {
	s := made(t, 256)
	store(t, s, "l", listOf("a b"), 0)
	for size := 1 << 16; size > 0; size /= 2 {
		for {
			ref, e := s.Heap().Alloc(api.KindBlob, 0, size)
			if e != api.OK {
				break
			}
			s.Heap().Root(ref)
		}
	}
	play(t, s, 0, row{"RPUSH n " + wide(900), api.BadOOM}, row{"RPUSH l " + wide(900), api.BadOOM}, row{"LPUSHX l " + wide(900), api.BadOOM}, row{"LSET l 0 " + wide(900), api.BadOOM}, row{"LINSERT l BEFORE a " + wide(900), api.BadOOM}, row{"LRANGE l 0 -1", `["a" "b"]`}, row{"LPOP l", `"a"`}, row{"LPOP l 5", `["b"]`})
}

// TestR13_NobodySeesTheHeap: one script on two spaces, one of another seed whose heap is collected and resized all the time.
func TestR13_NobodySeesTheHeap(t *testing.T) {
	s := fed(t)
	other, e := space.New(4000, 99)
	if e != api.OK {
		t.Fatalf("New: %d", e)
	}
	store(t, other, "k", listOf("a b c d e f g h i j k l m n o p"), 0)
	store(t, other, "n", listOf("1 2 3 4 5"), 0)
	lines := slices.Concat(every, every, every)
	for i := range lines {
		line := lines[i*11%len(lines)]
		if got, want := told(do(other, 0, line)), told(do(s, 0, line)); got != want || picture(s) != picture(other) {
			t.Errorf("%s: %s and %s", line, got, want)
		}
		other.Heap().Collect()
		other.Heap().Resize(64 << (i % 6))
		other.Draw([]byte{byte(i)})
	}
}
