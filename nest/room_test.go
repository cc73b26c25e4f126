package nest_test

import (
	"fmt"
	"slices"
	"strings"
	"testing"

	"larder/api"
	"larder/blob"
	"larder/nest"
	"larder/space"
	"larder/table"
)

// wantRoom holds the heap against what may lie there: no handle more, no word too many.
func wantRoom(t *testing.T, s *space.Space) {
	t.Helper()
	st := s.Heap().Stats()
	if n := 2*st.Half + st.Large; n > 16*s.Quota()+131072 {
		t.Errorf("the heap has %d words", n)
	}
	fresh := made(t, s.Quota())
	if want := fresh.Heap().Stats().Roots; st.Roots != want {
		t.Errorf("%d handles, want %d", st.Roots, want)
	}
	wantLaid(t, s)
	s.Heap().Collect()
	st = s.Heap().Stats()
	if cost := s.Cost(); st.Used+st.Large > cost+cost/64+256 {
		t.Errorf("%d words at a cost of %d", st.Used+st.Large, cost)
	}
}

// wantLaid holds how the hashes and sets of a space lie on its heap against P10.2: tables of the space's seed, whose entries have a field's value or nothing as their ref, and 0 in both words.
func wantLaid(t *testing.T, s *space.Space) {
	t.Helper()
	for db := range api.MaxDB {
		for _, key := range s.Keys(db) {
			kind, ref := s.Find(db, key)
			if kind != api.ValHash && kind != api.ValSet {
				continue
			}
			l, e := table.Open(s.Heap(), ref)
			if e != api.OK {
				t.Fatalf("Open: %d", e)
			}
			var names []string
			for name := range l.All() {
				names = append(names, string(name))
				ref, a, b, _ := l.Get(name)
				_, e := blob.Read(s.Heap(), ref)
				if a != 0 || b != 0 || kind == api.ValSet && ref != 0 || kind == api.ValHash && e != api.OK {
					t.Errorf("under %q there is %d, %d, %d", name, ref, a, b)
				}
			}
			if !slices.Equal(names, byHash(s.Seed(), names)) {
				t.Errorf("the table of %q has not the space's seed", key)
			}
			l.Close()
		}
	}
}

// words8 is the cost of a text of n bytes, B(n).
func words8(n int) int { return 2 + (n+7)/8 }

// TestR10_TheQuotaToTheWord: what every command that lays something may cost, and what one word more does.
func TestR10_TheQuotaToTheWord(t *testing.T) {
	// Of quota 256 a hash or set of one byte's key costs 24 + 3 + 40, a member x of one byte 16 + 3, a field x with a value of one byte 16 + 3 + 3. A member more is 18 words and its bytes; a field more 20 words and its bytes and its value's.
	const set, hash = 256 - 67 - 19 - 18, 256 - 67 - 22 - 20
	full := func(n int) string { return wide(8 * n) }
	for _, c := range []struct {
		value      api.Value
		fits, over []string
	}{
		{setOf("x"), []string{"SADD", "k", full(set)}, []string{"SADD", "k", full(set) + "w"}},
		{setOf("x"), []string{"SADD", "k", "x", "y", full(set - 19), "y"}, []string{"SADD", "k", "x", "y", full(set-19) + "w"}},
		{setOf("x"), []string{"SADD", "k", "", full(set - 18)}, []string{"SADD", "k", "", full(set-18) + "w"}},
		{hashOf("x 1"), []string{"HSET", "k", full(hash), ""}, []string{"HSET", "k", full(hash) + "w", ""}},
		{hashOf("x 1"), []string{"HSET", "k", "y", full(hash - 1)}, []string{"HSET", "k", "y", full(hash-1) + "w"}},
		{hashOf("x 1"), []string{"HSET", "k", "x", full(hash + 21)}, []string{"HSET", "k", "x", full(hash+21) + "w"}},
		{hashOf("x 1"), []string{"HSET", "k", "x", full(400), "y", full(500), "x", "", "y", full(hash)}, []string{"HSET", "k", "y", full(hash), "x", "2"}},
		{hashOf("x 1"), []string{"HSETNX", "k", "y", full(hash - 1)}, []string{"HSETNX", "k", "y", full(hash-1) + "w"}},
		{hashOf("x 1"), []string{"HINCRBY", "k", full(hash - 1), "5"}, []string{"HINCRBY", "k", full(hash-1) + "w", "5"}},
		{hashOf("x 1"), []string{"HINCRBY", "k", full(hash - 2), "123456789"}, []string{"HINCRBY", "k", full(hash - 1), "123456789"}},
	} {
		s := made(t, 256)
		store(t, s, "k", c.value, 40)
		before, cost := picture(s), s.Cost()
		if got := told(nest.Do(s, 0, 0, args(c.over...))); got != refusal(api.BadOOM) || picture(s) != before || s.Cost() != cost || len(s.Changed()) != 0 {
			t.Errorf("%s: %s, cost %d", c.over[0], brief(got), s.Cost())
		}
		wantRoom(t, s)
		if got := told(nest.Do(s, 0, 0, args(c.fits...))); got[0] == '-' || s.Cost() != 256 {
			t.Errorf("%s: %s, cost %d", c.fits[0], brief(got), s.Cost())
		}
		before = picture(s)
		play(t, s, 0, row{`SADD other ""`, api.BadOOM}, row{`HSET other "" ""`, api.BadOOM})
		if picture(s) != before {
			t.Errorf("%s: a refused command has changed something", c.fits[0])
		}
		wantRoom(t, s)
	}
}

// costOf is the cost of a key of n bytes with a set of these words.
func costOf(n int, line string) int {
	sum := 24 + words8(n) + 40
	for _, w := range words(line) {
		sum += 16 + words8(len(w))
	}
	return sum
}

// TestR10_StoredAndMovedToTheWord: what is laid under another key is carried out if there is room for all that is there behind it, and for no word more.
func TestR10_StoredAndMovedToTheWord(t *testing.T) {
	m, n := strings.Repeat("z", 900), strings.Repeat("a", 1300)
	for _, c := range []struct {
		line, a, b, c string // and the sets behind the command
	}{
		{"SUNIONSTORE c a", "x " + m, "y", "x " + m},
		{"SUNIONSTORE c a b", "x " + m, "y", "x y " + m},
		{"SUNIONSTORE b b a", "x " + m, "x y " + m, ""},
		{"SINTERSTORE c a a", "x " + m, "y", "x " + m},
		{"SDIFFSTORE b a b", "x " + m, "x " + m, ""},
		{"SDIFFSTORE b a none", "x " + m, "x " + m, ""},
		{"SADD c " + n, "x " + m, "y", n},
		{"SADD a " + n, n + " x " + m, "y", ""},
		{"SMOVE a c x", m, "y", "x"},
		{"SMOVE a c " + m, "x", "y", m},
	} {
		cost := costOf(1, c.a) + costOf(1, c.b)
		if c.c != "" {
			cost += costOf(1, c.c)
		}
		for _, spare := range []int{0, 1, -1} {
			s := made(t, cost+spare)
			store(t, s, "a", setOf("x "+m), 40)
			store(t, s, "b", setOf("y"), 40)
			before := picture(s)
			got := told(do(s, 0, c.line))
			if spare < 0 {
				if got != refusal(api.BadOOM) || picture(s) != before || len(s.Changed()) != 0 {
					t.Errorf("%s with a word too few: %s", brief(c.line), got)
				}
				wantRoom(t, s)
				continue
			}
			if got[0] == '-' || s.Cost() != cost {
				t.Errorf("%s: %s, cost %d, want %d", brief(c.line), got, s.Cost(), cost)
			}
			wantValue(t, s, "a", setOf(c.a))
			wantValue(t, s, "b", setOf(c.b))
			if c.c != "" {
				wantValue(t, s, "c", setOf(c.c))
			}
			wantRoom(t, s)
		}
	}
}

// TestR9_TheLongestNames: fields, values, members and keys of MaxText bytes are taken wherever the quota has room.
func TestR9_TheLongestNames(t *testing.T) {
	s := made(t, api.MaxQuota)
	long, longer := wide(api.MaxText), wide(api.MaxText+1)
	quote := `"` + long + `"`
	play(t, s, 0,
		row{"HSET " + long + " " + long + " " + long, 1}, row{"HGETALL " + long, "[" + quote + " " + quote + "]"}, row{"HSTRLEN " + long + " " + long, 4096}, row{"HSETNX " + long + " " + long + " x", 0}, row{"HINCRBY " + long + " " + long + " 1", api.BadInt}, row{"HSET " + long + " a " + long, 1}, row{"HSCAN " + long + " 0 MATCH " + long, `["0" [` + quote + " " + quote + `]]`}, row{"HDEL " + long + " " + long, 1},
		row{"SADD s " + long, 1}, row{"SADD s " + long, 0}, row{"SMOVE s r " + long, 1}, row{"SUNION r s", "[" + quote + "]"}, row{"SDIFFSTORE d r s", 1}, row{"SINTERCARD 2 d r", 1}, row{"SPOP d", quote}, row{"SREM r " + long, 1},
		row{"HSET h " + longer + " x", api.BadLong}, row{"HSET h x " + longer, api.BadLong}, row{"HGET h " + longer, api.BadLong}, row{"SADD s " + longer, api.BadLong}, row{"SISMEMBER s " + longer, api.BadLong}, row{"SSCAN s 0 MATCH " + longer, api.BadLong}, row{"SCARD " + longer, api.BadLong}, row{"SUNION s " + longer, api.BadLong})
	wantRoom(t, s)
}

// TestR10_AFullSpaceStillAnswers: what makes nothing dearer is carried out.
func TestR10_AFullSpaceStillAnswers(t *testing.T) {
	s := made(t, 256)
	// The two cost 67 each, the fields 22 each, x 19; the rest is one member's.
	store(t, s, "h", hashOf("a 1 b 2 c 3"), 0)
	store(t, s, "s", setOf("x "+wide(8*(256-134-66-19-18))), 0)
	if s.Cost() != 256 {
		t.Fatalf("cost %d", s.Cost())
	}
	play(t, s, 0,
		row{"HSET h a 12345678 b 5", 0}, row{"HSET h a 123456789", api.BadOOM}, row{`HSET h "" ""`, api.BadOOM}, row{"HSETNX h a 123456789", 0}, row{"HSETNX h d 1", api.BadOOM}, row{"HINCRBY h b 5", 10}, row{"HINCRBY h b 99999999", api.BadOOM}, row{"HINCRBY h d 1", api.BadOOM}, row{"HGET h b", `"10"`}, row{"HLEN h", 3},
		row{"SADD s x", 0}, row{"SADD s y", api.BadOOM}, row{"SMOVE s t x", api.BadOOM}, row{"SMOVE s s x", 1}, row{"SUNIONSTORE t s", api.BadOOM}, row{"SUNIONSTORE s s", 2}, row{"SDIFFSTORE t s s", 0}, row{"SINTERSTORE none s t", 0}, row{"SINTERCARD 1 s", 2},
		row{"HDEL h c", 1}, row{"SADD s z", 1}, row{"SADD s y", api.BadOOM}, row{"HSET h a 1 b 123456789", 0}, row{"HINCRBY h b 1", 123456790}, row{"SPOP s", `"` + wide(8*19) + `"`}, row{"SUNIONSTORE h s", 2})
	wantRoom(t, s)
}

// TestR10_WhatItCostsInTheMiddleDoesNotCount: what goes leaves its room to what comes.
func TestR10_WhatItCostsInTheMiddleDoesNotCount(t *testing.T) {
	s := made(t, 256)
	full := wide((256 - 67 - 18) * 8)
	play(t, s, 0, row{"SADD a " + full, 1})
	if s.Cost() != 256 {
		t.Fatalf("cost %d", s.Cost())
	}
	for _, key := range []string{"b", "c", "a"} {
		from := map[string]string{"b": "a", "c": "b", "a": "c"}[key]
		play(t, s, 0, row{"SMOVE " + from + " " + key + " " + full, 1})
		wantGone(t, s, from)
		wantValue(t, s, key, setOf(full))
		wantRoom(t, s)
	}
	play(t, s, 0, row{"SMOVE a long-name " + full, api.BadOOM}, row{"SUNIONSTORE a a a", 1}, row{"SPOP a", `"` + full + `"`})
	// A field's values may come and go in one command.
	value := wide((256 - 67 - 16 - 3 - 2) * 8)
	play(t, s, 0, row{"HSET h" + strings.Repeat(" f "+wide(api.MaxText), 62) + " f " + value, 1})
	if s.Cost() != 256 {
		t.Errorf("cost %d", s.Cost())
	}
	fields := ""
	for i := range 31 {
		fields += fmt.Sprintf(" %d %s", i%5, wide(api.MaxText))
	}
	for i := range 5 {
		fields += fmt.Sprintf(" %d x", i)
	}
	play(t, s, 0, row{"HDEL h f", 1}, row{"HSET h" + fields, 5}, row{"HVALS h", bulks("x x x x x")})
	wantRoom(t, s)
}

// TestR10_CommandsAsGreatAsCanBe: in the smallest space as in the greatest, within the quota and far above it.
func TestR10_CommandsAsGreatAsCanBe(t *testing.T) {
	for _, quota := range []int{api.MinQuota, 1000, api.MaxQuota} {
		for _, size := range []int{3, 10, 500, 900, api.MaxText} {
			for _, name := range []string{"SADD", "HSET"} {
				s := made(t, quota)
				store(t, s, "b", setOf("a "+wide(min(quota, api.MaxText))), 40)
				command, more := []string{name, "k"}, 126*(16+words8(size))
				if name == "HSET" {
					more = 63 * (16 + 2*words8(size))
				}
				for i := range 126 {
					command = append(command, fmt.Sprintf("%0*d", size, i))
				}
				for range 2 {
					before, cost, made := picture(s), s.Cost(), s.Size(0) == 1
					if made {
						cost += 67 + more
					}
					got := told(nest.Do(s, 0, 0, args(command...)))
					if cost > quota && (got != refusal(api.BadOOM) || picture(s) != before || len(s.Changed()) != 0) {
						t.Errorf("quota %d, %s of %d bytes: %s", quota, name, size, brief(got))
					}
					if cost <= quota && (got[0] == '-' || s.Cost() != cost || (len(s.Changed()) == 1) != made) {
						t.Errorf("quota %d, %s of %d bytes: %s, cost %d, want %d", quota, name, size, brief(got), s.Cost(), cost)
					}
					wantRoom(t, s)
				}
			}
		}
	}
}

// TestR10_AFullSpaceTurnsAbout: sets that fill the greatest space are moved, combined and stored over each other.
func TestR10_AFullSpaceTurnsAbout(t *testing.T) {
	s := made(t, api.MaxQuota)
	n := (api.MaxQuota - 2*67) / (18 + 30)
	var members []string
	for i := range n {
		members = append(members, fmt.Sprintf("%0240d", i))
	}
	for i := 0; i < n; i += 100 {
		do(s, 0, "SADD a "+strings.Join(members[i:min(i+100, n)], " "))
	}
	play(t, s, 0, row{"SCARD a", n}, row{"SUNIONSTORE b a", api.BadOOM}, row{"SUNIONSTORE a a", n}, row{"SINTERSTORE a a a", n})
	for range 2 {
		for _, member := range members {
			if got := told(do(s, 0, "SMOVE a b "+member)); got != "1" {
				t.Fatalf("SMOVE: %s", got)
			}
		}
		wantGone(t, s, "a")
		wantRoom(t, s)
		play(t, s, 0, row{"SDIFFSTORE b b a", n}, row{"SPOP b 99999", quoted(members)})
		if s.Cost() != 0 {
			t.Errorf("cost %d", s.Cost())
		}
		for i := 0; i < n; i += 100 {
			do(s, 0, "SADD a "+strings.Join(members[i:min(i+100, n)], " "))
		}
	}
	play(t, s, 0, row{"SUNION" + strings.Repeat(" a", 127), quoted(members)}, row{"SINTERCARD 126" + strings.Repeat(" a", 126), n})
	wantRoom(t, s)
}

// TestR10_AFullHashIsLaidAnew: all values of a hash that fills the greatest space are laid over, twice in one command.
func TestR10_AFullHashIsLaidAnew(t *testing.T) {
	s := made(t, api.MaxQuota)
	n := (api.MaxQuota - 67) / (16 + 3 + 514)
	for round := range 4 {
		var pairs, want []string
		for i := range 2 * n {
			value := strings.Repeat(string(rune('a'+(round+i)%26)), api.MaxText)
			pairs = append(pairs, string(rune('A'+i%n)), value)
			if i >= n {
				want = append(want, value)
			}
		}
		play(t, s, 0, row{"HSET h " + strings.Join(pairs, " "), map[bool]int{true: n, false: 0}[round == 0]}, row{"HVALS h", quoted(want)}, row{"HSET h x " + wide(api.MaxText), api.BadOOM})
		wantRoom(t, s)
	}
	play(t, s, 0, row{"HGET h A", `"` + strings.Repeat(string(rune('a'+(3+n)%26)), api.MaxText) + `"`})
}

// TestR1_AHeapThatSomebodyElseHasFilled: nothing is promised then but that every call ends; what can't be laid down is refused.
func TestR1_AHeapThatSomebodyElseHasFilled(t *testing.T) {
	s := made(t, 400)
	store(t, s, "s", setOf("a b"), 0)
	store(t, s, "h", hashOf("a 1 b 2"), 0)
	for size := 1 << 16; size > 0; size /= 2 {
		for {
			ref, e := s.Heap().Alloc(api.KindBlob, 0, size)
			if e != api.OK {
				break
			}
			s.Heap().Root(ref)
		}
	}
	long := wide(900)
	play(t, s, 0,
		row{"SADD n " + long, api.BadOOM}, row{"SADD s " + long, api.BadOOM}, row{"HSET h x " + long, api.BadOOM}, row{"HSET h " + long + " x", api.BadOOM}, row{"HSETNX h x " + long, api.BadOOM}, row{"HINCRBY h " + long + " 1", api.BadOOM}, row{"SUNIONSTORE " + long + " s", api.BadOOM},
		row{"SREM none a", 0}, row{"SPOP none 1", "[]"}, row{"HDEL none a", 0}, row{"SMEMBERS s", bulks("a b")}, row{"HGETALL h", bulks("a 1 b 2")}, row{"SPOP s", `"a"`}, row{"SREM s b", 1}, row{"HDEL h a b", 2})
}

// TestR13_NobodySeesTheHeap: one script on two spaces, one of another seed whose heap is collected and resized all the time.
func TestR13_NobodySeesTheHeap(t *testing.T) {
	s := fed(t)
	other, e := space.New(4000, 99)
	if e != api.OK {
		t.Fatalf("New: %d", e)
	}
	fill(t, other)
	// The scans hang on the seed.
	lines := slices.DeleteFunc(slices.Concat(every, every, every), func(line string) bool { return line[1:5] == "SCAN" })
	for i := range lines {
		line := lines[i*37%len(lines)]
		if got, want := told(do(other, 0, line)), told(do(s, 0, line)); got != want || picture(s) != picture(other) {
			t.Errorf("%s: %s and %s", line, got, want)
		}
		other.Heap().Collect()
		other.Heap().Resize(64 << (i % 6))
		other.Draw([]byte{byte(i)})
	}
	if len(lines)%37 == 0 {
		t.Error("not every command was given")
	}
}

// TestR13_ScansHangOnTheSeedAlone: not on draws, collections, or on how the values came about.
func TestR13_ScansHangOnTheSeedAlone(t *testing.T) {
	names := namesOf(40)
	s, other := filled(t, 5, names), filled(t, 5, nil)
	for i, name := range byHash(3, slices.Concat(names, namesOf(90))) {
		do(other, 0, "SADD s "+name)
		do(other, 0, "HSET h "+name+" "+name+"!")
		other.Heap().Collect()
		other.Draw([]byte{byte(i)})
	}
	for _, name := range namesOf(90)[40:] {
		do(other, 0, "SREM s "+name)
		do(other, 0, "HDEL h "+name)
	}
	for cursor, n := "0", 0; n == 0 || cursor != "0"; n++ {
		for _, line := range []string{"HSCAN h " + cursor + " COUNT 3", "SSCAN s " + cursor + " COUNT 3"} {
			r := do(s, 0, line)
			if got := told(do(other, 0, line)); got != told(r) {
				t.Fatalf("%s: %s and %s", line, got, told(r))
			}
			if line[0] == 'S' {
				cursor = string(r.List[0].Text)
			}
		}
	}
}
