package order_test

import (
	"fmt"
	"slices"
	"strings"
	"testing"

	"larder/api"
	"larder/order"
	"larder/rank"
	"larder/space"
	"larder/table"
)

// wantRoom holds the heap against what may lie there: no handle more, no word too many.
func wantRoom(t *testing.T, s *space.Space) {
	t.Helper()
	st := s.Heap().Stats()
	if n := 2*st.Half + st.Large; n > 16*s.Quota()+131072 {
		t.Errorf("the heap has %d words", n)
	}
	fresh := made(t, s.Quota())
	if want := fresh.Heap().Stats().Roots; st.Roots != want {
		t.Errorf("%d handles, want %d", st.Roots, want)
	}
	wantLaid(t, s)
	s.Heap().Collect()
	st = s.Heap().Stats()
	if cost := s.Cost(); st.Used+st.Large > cost+cost/64+256 {
		t.Errorf("%d words at a cost of %d", st.Used+st.Large, cost)
	}
}

// wantLaid holds how the ranked sets of a space lie on its heap against P10.2 and chapter 7: their tables have the space's seed, and each member's score.
func wantLaid(t *testing.T, s *space.Space) {
	t.Helper()
	for db := range api.MaxDB {
		for _, key := range s.Keys(db) {
			kind, ref := s.Find(db, key)
			if kind != api.ValRank {
				continue
			}
			r, e := rank.Open(s.Heap(), ref)
			if e != api.OK {
				t.Fatalf("Open: %d", e)
			}
			under, _ := s.Heap().Get(ref, 0)
			l, e := table.Open(s.Heap(), under)
			if e != api.OK || l.Len() != r.Len() {
				t.Fatalf("the table of %q: %d", key, e)
			}
			var names []string
			for name := range l.All() {
				names = append(names, string(name))
				_, word, _, _ := l.Get(name)
				place, there := r.Place(name)
				if at := r.Slice(place, 1); !there || len(at) != 1 || at[0].Score != int64(word) || string(at[0].Member) != string(name) {
					t.Errorf("%q stands at %d with %v, and has %d in the table", name, place, at, int64(word))
				}
			}
			if !slices.Equal(names, byHash(s.Seed(), names)) {
				t.Errorf("the table of %q has not the space's seed", key)
			}
			l.Close()
			r.Close()
		}
	}
}

// words8 is the cost of a text of n bytes, B(n).
func words8(n int) int { return 2 + (n+7)/8 }

// costOf is the cost of a key of one byte with a ranked set of this line; of the empty line there is no key.
func costOf(line string) int {
	if line == "" {
		return 0
	}
	sum := 24 + words8(1) + 96
	for _, m := range rankOf(line).Ranked {
		sum += 40 + 2*words8(len(m.Member))
	}
	return sum
}

// TestR10_TheQuotaToTheWord: what is changed or laid is carried out if there is room for all that is there behind it, and for no word more.
func TestR10_TheQuotaToTheWord(t *testing.T) {
	m, n := strings.Repeat("z", 900), strings.Repeat("a", 1300)
	for _, c := range []struct {
		line, a, b, c string // and the ranked sets behind the command
	}{
		{"ZADD a 5 " + n, "1 x 3 " + m + " 5 " + n, "2 y", ""},
		{"ZADD a NX 7 x 5 " + n + " 9 " + n, "1 x 3 " + m + " 5 " + n, "2 y", ""},
		{"ZADD c 5 " + n + ` 5 "" 6 ` + n, "1 x 3 " + m, "2 y", `5 "" 6 ` + n},
		{"ZADD b INCR 5 " + n, "1 x 3 " + m, "2 y 5 " + n, ""},
		{"ZINCRBY c 5 " + n, "1 x 3 " + m, "2 y", "5 " + n},
		{"ZRANGESTORE c a 0 -1", "1 x 3 " + m, "2 y", "1 x 3 " + m},
		{"ZRANGESTORE b a 1 1", "1 x 3 " + m, "3 " + m, ""},
		{"ZUNIONSTORE c 1 a", "1 x 3 " + m, "2 y", "1 x 3 " + m},
		{"ZUNIONSTORE c 2 a b", "1 x 3 " + m, "2 y", "1 x 2 y 3 " + m},
		{"ZUNIONSTORE b 2 b a", "1 x 3 " + m, "1 x 2 y 3 " + m, ""},
		{"ZINTERSTORE c 2 a a", "1 x 3 " + m, "2 y", "2 x 6 " + m},
		{"ZDIFFSTORE b 2 a b", "1 x 3 " + m, "1 x 3 " + m, ""},
	} {
		cost := costOf(c.a) + costOf(c.b) + costOf(c.c)
		for _, spare := range []int{0, 1, -1} {
			s := made(t, cost+spare)
			store(t, s, "a", rankOf("1 x 3 "+m), 40)
			store(t, s, "b", rankOf("2 y"), 40)
			s.Draw([]byte{255, 255, 255, 255})
			before := picture(s)
			got := told(do(s, 0, c.line))
			if spare < 0 {
				if got != refusal(api.BadOOM) || picture(s) != before || len(s.Changed()) != 0 {
					t.Errorf("%s with a word too few: %s", brief(c.line), got)
				}
				wantRoom(t, s)
				continue
			}
			if got[0] == '-' || s.Cost() != cost {
				t.Errorf("%s: %s, cost %d, want %d", brief(c.line), got, s.Cost(), cost)
			}
			wantValue(t, s, "a", rankOf(c.a))
			wantValue(t, s, "b", rankOf(c.b))
			if c.c != "" {
				wantValue(t, s, "c", rankOf(c.c))
			}
			wantRoom(t, s)
		}
	}
}

// TestR9_TheLongestNames: members and keys of MaxText bytes are taken wherever the quota has room.
func TestR9_TheLongestNames(t *testing.T) {
	s := made(t, api.MaxQuota)
	long, longer := wide(api.MaxText), wide(api.MaxText+1)
	quote := `"` + long + `"`
	play(t, s, 0,
		row{"ZADD " + long + " 5 " + long, 1}, row{"ZRANGE " + long + " 0 -1 WITHSCORES", "[" + quote + ` "5"]`}, row{"ZSCORE " + long + " " + long, `"5"`}, row{"ZINCRBY " + long + " 1 " + long, `"6"`}, row{"ZRANK " + long + " " + long + " WITHSCORE", `[0 "6"]`}, row{"ZADD " + long + " 9 a", 1}, row{"ZSCAN " + long + " 0 MATCH " + long, `["0" [` + quote + ` "6"]]`}, row{"ZLEXCOUNT " + long + " - [" + wide(api.MaxText-1), 1}, row{"ZUNIONSTORE d 1 " + long, 2}, row{"ZRANGESTORE e " + long + " 0 0", 1}, row{"ZDIFF 2 d e", bulks("a")}, row{"ZMPOP 1 " + long + " MIN", "[" + quote + " [[" + quote + ` "6"]]]`}, row{"ZREM d " + long, 1},
		row{"ZADD d 1 " + longer, api.BadLong}, row{"ZSCORE d " + longer, api.BadLong}, row{"ZCARD " + longer, api.BadLong}, row{"ZUNION 1 " + longer, api.BadLong}, row{"ZLEXCOUNT d - [" + long, api.BadLong}, row{"ZSCAN d 0 MATCH " + longer, api.BadLong})
	wantRoom(t, s)
}

// TestR10_AFullSpaceStillAnswers: what makes nothing dearer is carried out.
func TestR10_AFullSpaceStillAnswers(t *testing.T) {
	const a, b = "1 a 2 b 3 c", "5 x"
	s := made(t, costOf(a)+costOf(b))
	store(t, s, "a", rankOf(a), 0)
	store(t, s, "b", rankOf(b), 0)
	play(t, s, 0,
		row{"ZADD a 9 a 8 b 7 c", 0}, row{"ZADD a 1 d", api.BadOOM}, row{"ZADD a 1 a 2 d", api.BadOOM}, row{"ZSCORE a a", `"9"`}, row{"ZADD a XX CH 1 a 5 d", 1}, row{"ZADD a INCR 1 d", api.BadOOM}, row{"ZINCRBY a 1 d", api.BadOOM}, row{"ZINCRBY a 1 a", `"2"`}, row{"ZADD new 1 a", api.BadOOM}, row{"ZADD new XX 1 a", 0}, row{"ZADD a 1 123456789", api.BadOOM},
		row{"ZRANGESTORE b a 0 0", 1}, row{"ZRANGESTORE b a 0 1", api.BadOOM}, row{"ZRANGESTORE a a 0 -1", 3}, row{"ZRANGESTORE c a 0 0", api.BadOOM}, row{"ZRANGESTORE c a 9 9", 0}, row{"ZUNIONSTORE a 2 a b", 3}, row{"ZUNIONSTORE b 1 a", api.BadOOM}, row{"ZINTERSTORE b 2 a b", 1}, row{"ZDIFFSTORE b 2 b a", 0},
		row{"ZADD b 1 x", 1}, row{"ZADD b 1 y", api.BadOOM}, row{"ZPOPMIN a", bulks("a 4")}, row{"ZADD b 1 y", 1}, row{"ZADD b 1 z", api.BadOOM}, row{"ZREM a b", 1}, row{"ZADD b 1 12345678", 1})
	wantRoom(t, s)
}

// TestR10_CommandsAsGreatAsCanBe: in the smallest space as in the greatest, within the quota and far above it, at the levels 1, 2 and 8.
func TestR10_CommandsAsGreatAsCanBe(t *testing.T) {
	for _, quota := range []int{api.MinQuota, 1000, api.MaxQuota} {
		for _, size := range []int{2, 10, 500, 900, api.MaxText} {
			for _, draw := range []byte{0, 5, 255} {
				s := made(t, quota)
				if quota > api.MinQuota {
					store(t, s, "b", rankOf("1 "+wide(min(quota, api.MaxText)/2)), 40)
				}
				command, more := []string{"ZADD", "k"}, costOf("1 x")-46+63*(40+2*words8(size))
				for i := range 63 {
					command = append(command, fmt.Sprint(i*5%7), fmt.Sprintf("%0*d", size, i))
				}
				for round := range 2 {
					s.Draw([]byte(strings.Repeat(string([]byte{draw}), 63)))
					before, cost := picture(s), s.Cost()
					_, there := s.Deadline(0, []byte("k"))
					if !there {
						cost += more
					}
					got := told(order.Do(s, 0, 0, args(command...)))
					if cost > quota && (got != refusal(api.BadOOM) || picture(s) != before || len(s.Changed()) != 0) {
						t.Errorf("quota %d, %d bytes: %s", quota, size, brief(got))
					}
					if cost <= quota && (got != fmt.Sprint(63-63*round) || s.Cost() != cost || (len(s.Changed()) == 1) == there) {
						t.Errorf("quota %d, %d bytes: %s, cost %d, want %d", quota, size, brief(got), s.Cost(), cost)
					}
					wantRoom(t, s)
				}
			}
		}
	}
}

// TestR10_AFullSpaceTurnsAbout: a ranked set that fills the greatest space is changed throughout, combined, stored over itself and taken away.
func TestR10_AFullSpaceTurnsAbout(t *testing.T) {
	for _, size := range []int{3, 240, 1200} {
		s := made(t, api.MaxQuota)
		n := (api.MaxQuota - 123) / (40 + 2*words8(size))
		s.Draw([]byte(strings.Repeat("\xff", api.MaxDraws)))
		var members []string
		add := func(key string, by int) {
			for i := 0; i < n; i += 60 {
				line := "ZADD " + key
				for j := i; j < min(i+60, n); j++ {
					line += fmt.Sprintf(" %d %s", j*by, members[j])
				}
				do(s, 0, line)
			}
		}
		for i := range n {
			members = append(members, fmt.Sprintf("%0*d", size, i))
		}
		add("a", 1)
		play(t, s, 0, row{"ZCARD a", n}, row{"ZRANGE a 0 -1", quoted(members)}, row{"ZUNIONSTORE b 1 a", api.BadOOM}, row{"ZRANGESTORE b a 0 -1", api.BadOOM}, row{"ZUNIONSTORE a 1 a", n}, row{"ZRANGESTORE a a 0 -1 REV", n})
		wantRoom(t, s)
		for _, by := range []int{-1, 2, 0} {
			add("a", by)
			wantRoom(t, s)
		}
		play(t, s, 0, row{"ZRANGE a 0 -1", quoted(members)}, row{"ZUNIONSTORE a 100" + strings.Repeat(" a", 100), n}, row{"ZINTERSTORE a 126" + strings.Repeat(" a", 125), api.BadSyntax}, row{"ZINTERSTORE a 125" + strings.Repeat(" a", 125), n}, row{"ZINTERCARD 126" + strings.Repeat(" a", 126), n})
		for _, line := range []string{"ZREMRANGEBYRANK a 0 -1", "ZREMRANGEBYSCORE a -inf inf", "ZREMRANGEBYLEX a - +", "ZRANGESTORE a a 0 -1 REV"} {
			play(t, s, 0, row{line, n})
			wantRoom(t, s)
			add("a", 1)
		}
		play(t, s, 0, row{"ZRANGE a 0 -1", quoted(members)}, row{"ZREMRANGEBYRANK a 1 -1", n - 1}, row{"ZPOPMAX a", quoted([]string{members[0], "0"})})
		if s.Cost() != 0 {
			t.Errorf("cost %d", s.Cost())
		}
		wantRoom(t, s)
	}
}

// TestR10_SetsBecomeDearer: the members of a set are laid as a ranked set if there is room for that.
func TestR10_SetsBecomeDearer(t *testing.T) {
	var members []string
	for i := range 750 {
		members = append(members, fmt.Sprintf("%010d", i))
	}
	// A member costs 20 in the set, 48 in a ranked set; the keys 67 and 123.
	both, over := (api.MaxQuota-67-123)/68, (api.MaxQuota-123)/48
	for _, n := range []int{both, both + 1, over, over + 1, 750} {
		s := made(t, api.MaxQuota)
		store(t, s, "s", setOf(strings.Join(members[:n], " ")), 0)
		for _, to := range []string{"z", "s"} {
			most := both
			if to == "s" {
				most = over
			}
			want := any(n)
			if n > most {
				want = api.BadOOM
			}
			play(t, s, 0, row{"ZUNIONSTORE " + to + " 1 s", want}, row{"ZUNION 1 s", quoted(members[:n])})
			wantRoom(t, s)
			s.Run(0, func() api.Reply {
				s.Remove(0, []byte("z"))
				return api.Reply{}
			})
		}
	}
}

// TestR1_AHeapThatSomebodyElseHasFilled: nothing is promised then but that every call ends; what can't be laid down is refused.
func TestR1_AHeapThatSomebodyElseHasFilled(t *testing.T) {
	s := made(t, 800)
	store(t, s, "z", rankOf("1 a 2 b"), 0)
	store(t, s, "y", rankOf("1 a"), 0)
	for size := 1 << 16; size > 0; size /= 2 {
		for {
			ref, e := s.Heap().Alloc(api.KindBlob, 0, size)
			if e != api.OK {
				break
			}
			s.Heap().Root(ref)
		}
	}
	long := wide(900)
	play(t, s, 0,
		row{"ZADD n 1 " + long, api.BadOOM}, row{"ZADD z 1 " + long, api.BadOOM}, row{"ZINCRBY z 1 " + long, api.BadOOM}, row{"ZADD z INCR 1 " + long, api.BadOOM}, row{"ZUNIONSTORE " + long + " 1 z", api.BadOOM}, row{"ZRANGESTORE " + long + " z 0 -1", api.BadOOM},
		row{"ZREM none a", 0}, row{"ZPOPMIN none 1", "[]"}, row{"ZRANGE z 0 -1", bulks("a b")}, row{"ZUNION 2 z y WITHSCORES", bulks("a 2 b 2")}, row{"ZPOPMIN z", bulks("a 1")}, row{"ZREM z b", 1}, row{"ZREMRANGEBYRANK y 0 -1", 1})
}

// TestR13_NobodySeesTheHeap: one script on two spaces, one of another seed and with other draws, whose heap is collected and resized all the time.
func TestR13_NobodySeesTheHeap(t *testing.T) {
	s := fed(t)
	other, e := space.New(4000, 99)
	if e != api.OK {
		t.Fatalf("New: %d", e)
	}
	fill(t, other)
	// The scans hang on the seed.
	lines := slices.DeleteFunc(slices.Concat(every, every, every), func(line string) bool { return line[1:5] == "SCAN" })
	for i := range lines {
		line := lines[i*37%len(lines)]
		if got, want := told(do(other, 0, line)), told(do(s, 0, line)); got != want || picture(s) != picture(other) {
			t.Errorf("%s: %s and %s", line, got, want)
		}
		other.Heap().Collect()
		other.Heap().Resize(64 << (i % 6))
		other.Draw([]byte{byte(i * 29), 255, 7})
	}
	if len(lines)%37 == 0 {
		t.Error("not every command was given")
	}
}

// TestR13_ScansHangOnTheSeedAlone: not on draws, collections, or on how the values came about.
func TestR13_ScansHangOnTheSeedAlone(t *testing.T) {
	names := namesOf(40)
	s, other := filled(t, 5, names), filled(t, 5, nil)
	for i, name := range byHash(3, slices.Concat(names, namesOf(90))) {
		other.Draw([]byte{byte(i * 77)})
		do(other, 0, fmt.Sprintf("ZADD z %d %s", scoreOf(name), name))
		other.Heap().Collect()
	}
	for _, name := range namesOf(90)[40:] {
		do(other, 0, "ZREM z "+name)
	}
	for cursor, n := "0", 0; n == 0 || cursor != "0"; n++ {
		line := "ZSCAN z " + cursor + " COUNT 3"
		r := do(s, 0, line)
		if got := told(do(other, 0, line)); got != told(r) {
			t.Fatalf("%s: %s and %s", line, got, told(r))
		}
		cursor = string(r.List[0].Text)
	}
}
