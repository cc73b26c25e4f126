package board_test

import (
	"fmt"
	"slices"
	"strings"
	"testing"

	"larder/api"
	"larder/board"
	"larder/space"
)

// wantRoom holds the heap against what may lie there: no handle more, no word too many.
func wantRoom(t *testing.T, s *space.Space) {
	t.Helper()
	st := s.Heap().Stats()
	if n := 2*st.Half + st.Large; n > 16*s.Quota()+131072 {
		t.Errorf("the heap has %d words", n)
	}
	fresh := made(t, s.Quota())
	if want := fresh.Heap().Stats().Roots; st.Roots != want {
		t.Errorf("%d handles, want %d", st.Roots, want)
	}
	s.Heap().Collect()
	st = s.Heap().Stats()
	if cost := s.Cost(); st.Used+st.Large > cost+cost/64+256 {
		t.Errorf("%d words at a cost of %d", st.Used+st.Large, cost)
	}
}

// quotaCase is a command, behind which a space of the keys a, b and c, if they are not empty, costs so much.
type quotaCase struct {
	line string
	cost int
}

// TestR10_TheQuotaToTheWord: what is changed or laid is carried out if there is room for all that is there behind it, and for no word more.
func TestR10_TheQuotaToTheWord(t *testing.T) {
	long, b := wide(2000), 24+words8(1)+3
	for kind, v := range kinds()[1:] {
		a := costOf(1, kind+1)
		for _, c := range []quotaCase{
			{"RENAME a " + long, costOf(2000, kind+1) + b},
			{"RENAME b " + long, a + 24 + words8(2000) + 3},
			{"RENAMENX a " + long, costOf(2000, kind+1) + b},
			{"COPY a " + long, a + costOf(2000, kind+1) + b},
			{"COPY b " + long + " DB 3", a + b + 24 + words8(2000) + 3},
			{"COPY a b" + long + " REPLACE", a + costOf(2001, kind+1) + b},
			{"COPY a long DB 1", a + costOf(4, kind+1) + b},
		} {
			if c.cost < api.MinQuota {
				continue
			}
			for _, spare := range []int{0, 1, -1} {
				s := made(t, max(c.cost+spare, api.MinQuota))
				if a+b > s.Quota() {
					continue
				}
				store(t, s, "a", v, 40)
				store(t, s, "b", textOf("v"), 0)
				before := picture(s)
				got := told(do(s, 0, c.line))
				switch {
				case spare < 0:
					if got != refusal(api.BadOOM) || picture(s) != before || len(s.Changed()) != 0 {
						t.Errorf("%s with a word too few: %s", brief(c.line), got)
					}
				case got[0] == '-' || s.Cost() != c.cost:
					t.Errorf("%s: %s, cost %d, want %d", brief(c.line), got, s.Cost(), c.cost)
				}
				wantRoom(t, s)
			}
		}
	}
}

// TestR10_SortStoresToTheWord: what is stored in the place of something is held against what there is behind it.
func TestR10_SortStoresToTheWord(t *testing.T) {
	listCost := func(key int, elements ...int) int {
		sum := 24 + words8(key) + 8
		for _, n := range elements {
			sum += 6 + words8(n)
		}
		return sum
	}
	l := listCost(1, 1, 1, 1)
	for _, c := range []struct {
		line string
		cost int // of all but the text that makes the quota full
	}{
		{"SORT l STORE d", l + listCost(1, 1, 1, 1)},
		{"SORT l GET # GET # STORE l", listCost(1, 1, 1, 1, 1, 1, 1)},
		{"SORT l GET none* GET # STORE d", l + listCost(1, 0, 1, 0, 1, 0, 1)},
		{"SORT l GET t* STORE l", listCost(1, 800, 0, 0)},
		{"SORT l GET t* GET t* STORE d LIMIT 0 1", l + listCost(1, 800, 800)},
	} {
		text := 24 + words8(2) + words8(800)
		for _, spare := range []int{0, 1, -1} {
			s := made(t, 700)
			store(t, s, "l", listOf("3 1 2"), 0)
			store(t, s, "t1", textOf(wide(800)), 0)
			full := s.Quota() - c.cost - text - spare - 24 - words8(4)
			if d := s.Quota() - s.Cost() - 24 - words8(4); full > d {
				t.Fatalf("%s: %d, %d", c.line, full, d)
			}
			store(t, s, "full", textOf(wide(8*(full-2))), 0)
			before := picture(s)
			got := told(do(s, 0, c.line))
			if spare < 0 && (got != refusal(api.BadOOM) || picture(s) != before) || spare >= 0 && (got[0] == '-' || s.Cost() != s.Quota()-spare) {
				t.Errorf("%s with %d to spare: %s, cost %d", c.line, spare, got, s.Cost())
			}
			wantRoom(t, s)
		}
	}
}

// TestR9_TheLongestNames: keys, elements and patterns of MaxText bytes are taken wherever the quota has room.
func TestR9_TheLongestNames(t *testing.T) {
	s := made(t, api.MaxQuota)
	long, longer := wide(api.MaxText), wide(api.MaxText+1)
	quote := `"` + long + `"`
	play(t, s, 0,
		row{"SET " + long + " " + long, "OK"}, row{"EXISTS " + long, 1}, row{"TYPE " + long, "string"}, row{"EXPIRE " + long + " 5", 1}, row{"TTL " + long, 5}, row{"KEYS " + long, "[" + quote + "]"}, row{"SCAN 0 MATCH " + long, `["0" [` + quote + `]]`}, row{"COPY " + long + " b", 1}, row{"RENAME b c", "OK"}, row{"RENAME c " + long, "OK"}, row{"MOVE " + long + " 1", 1}, row{"SWAPDB 0 1", "OK"}, row{"MEMORY USAGE " + long, 24 + 2*words8(4096)}, row{"COMMAND GETKEYS GET " + long, "[" + quote + "]"},
		row{"RPUSH l " + long + " a", 2}, row{"SORT l ALPHA", `["a" ` + quote + "]"}, row{"SORT l ALPHA GET " + long, "[nil nil]"}, row{"SORT l BY " + wide(4095) + "*", `["a" ` + quote + "]"}, row{"SORT l ALPHA STORE " + long, 2}, row{"LLEN " + long, 2}, row{"DEL " + long + " l", 2},
		row{"DEL " + longer, api.BadLong}, row{"SORT l BY " + longer, api.BadLong}, row{"SORT l STORE " + longer, api.BadLong}, row{"KEYS " + longer, api.BadLong}, row{"NOSUCH " + longer, api.BadLong}, row{"COMMAND GETKEYS GET " + longer, api.BadLong})
	wantRoom(t, s)
}

// TestR10_AFullSpaceStillAnswers: what makes nothing dearer is carried out.
func TestR10_AFullSpaceStillAnswers(t *testing.T) {
	for kind, v := range kinds()[1:] {
		cost := costOf(1, kind+1)
		n := (api.MaxQuota - 3000) / cost
		s := made(t, n*cost+30)
		for i := range n {
			storeIn(t, s, i%4, string([]byte{byte(i / 4)}), v, uint64(i%3*90))
		}
		storeIn(t, s, 0, "z", textOf("v"), 0)
		if s.Cost() != s.Quota() {
			t.Fatalf("cost %d of %d", s.Cost(), s.Quota())
		}
		before := picture(s)
		for _, line := range []string{"SWAPDB 0 1", "SWAPDB 2 1", "SWAPDB 3 0", "SWAPDB 0 3", "SWAPDB 1 2", "SWAPDB 1 0", "SWAPDB 2 2"} {
			play(t, s, 0, row{line, "OK"})
			wantRoom(t, s)
		}
		if picture(s) != before {
			t.Errorf("there and back again there is something else")
		}
		play(t, s, 0, row{`COPY "\x00" new`, api.BadOOM}, row{`COPY "\x00" new DB 2`, api.BadOOM}, row{`RENAME "\x00" 123456789`, api.BadOOM}, row{`RENAME "\x00" 12345678`, "OK"}, row{"RENAME 12345678 123456789", api.BadOOM}, row{`RENAME 12345678 "\x00"`, "OK"}, row{`COPY "\x00" "\x01" REPLACE`, 1}, row{`MOVE z 1`, 1}, row{"SORT none STORE none", 0}, row{`EXPIRE "\x00" 5`, 1}, row{"SET more x", api.BadOOM}, row{"@1 DEL z", 1}, row{"SET z v", "OK"}, row{"FLUSHDB", "OK"}, row{"FLUSHALL", "OK"})
		wantRoom(t, s)
	}
}

// TestR10_OneGreatValue: of any kind, as great as the quota, is moved about, copied over, and taken away.
func TestR10_OneGreatValue(t *testing.T) {
	for _, size := range []int{1, 200, 1000, 4096} {
		for kind := api.ValList; kind <= api.ValRank; kind++ {
			s := made(t, api.MaxQuota)
			half, whole := greatOf(kind, size, api.MaxQuota/2-60), greatOf(kind, size, api.MaxQuota-60)
			storeIn(t, s, 0, "k", half, 0)
			play(t, s, 0, row{"COPY k l", 1}, row{"SWAPDB 0 1", "OK"}, row{"@1 RENAME k l", "OK"}, row{"@1 COPY l k", 1}, row{"@1 COPY l k REPLACE", 1}, row{"@1 COPY l l DB 2", nil}, row{"@1 DEL k", 1}, row{"@1 COPY l l DB 2", 1}, row{"SWAPDB 1 2", "OK"})
			wantChanged(t, s)
			wantAt(t, s, at(2, "l"), half, 0)
			wantRoom(t, s)
			play(t, s, 0, row{"FLUSHALL", "OK"})
			storeIn(t, s, 0, "k", whole, 0)
			play(t, s, 0, row{"COPY k l", api.BadOOM}, row{"RENAME k l", "OK"}, row{"MOVE l 3", 1}, row{"SWAPDB 3 0", "OK"}, row{"RENAME l " + wide(4000), api.BadOOM}, row{"COPY l l DB 3", api.BadOOM})
			wantAt(t, s, at(0, "l"), whole, 0)
			if kind != api.ValHash {
				play(t, s, 0, row{"SORT l ALPHA STORE m", nil}, row{"SORT l BY x STORE l", nil}, row{"SORT l BY x GET #" + strings.Repeat(" GET x", 20) + " STORE l", nil})
			}
			wantRoom(t, s)
			play(t, s, 0, row{"FLUSHDB", "OK"})
			if s.Cost() != 0 {
				t.Errorf("cost %d", s.Cost())
			}
			wantRoom(t, s)
		}
	}
}

// greatOf is a value of a kind, of names of a size, that costs at most so much with a key of one byte.
func greatOf(kind, size, most int) api.Value {
	each := []int{0, 0, 6 + words8(size), 16 + words8(size) + words8(0), 16 + words8(size), 40 + 2*words8(size)}[kind]
	whole := 27 + []int{0, 0, 8, 40, 40, 96}[kind]
	v := api.Value{Kind: kind}
	for i := range (most - whole) / each {
		name := []byte(fmt.Sprintf("%0*d", size, i))
		if size == 1 {
			name = []byte(fmt.Sprint(i))
		}
		switch kind {
		case api.ValHash:
			v.Pairs = append(v.Pairs, api.Pair{Field: name})
		case api.ValRank:
			v.Ranked = append(v.Ranked, api.Scored{Member: name, Score: int64(i)})
		default:
			v.List = append(v.List, name)
		}
	}
	slices.SortFunc(v.Pairs, func(a, b api.Pair) int { return strings.Compare(string(a.Field), string(b.Field)) })
	if kind == api.ValSet {
		slices.SortFunc(v.List, func(a, b []byte) int { return strings.Compare(string(a), string(b)) })
	}
	return v
}

// TestR1_AHeapThatSomebodyElseHasFilled: nothing is promised then but that every call ends; what can't be laid down is refused.
func TestR1_AHeapThatSomebodyElseHasFilled(t *testing.T) {
	s := made(t, 800)
	store(t, s, "l", listOf("2 1"), 0)
	store(t, s, "t", textOf(wide(900)), 0)
	for size := 1 << 16; size > 0; size /= 2 {
		for {
			ref, e := s.Heap().Alloc(api.KindBlob, 0, size)
			if e != api.OK {
				break
			}
			s.Heap().Root(ref)
		}
	}
	long := wide(900)
	play(t, s, 0,
		row{"COPY t " + long, api.BadOOM}, row{"RENAME l " + long, api.BadOOM}, row{"RENAMENX l " + long, api.BadOOM}, row{"SORT l GET t GET # STORE " + long, api.BadOOM}, row{"EXISTS t l", 2}, row{"SORT l", bulks("1 2")}, row{"EXPIRE l 5", 1}, row{"TTL l", 5}, row{"KEYS *", bulks("l t")}, row{"DEL l", 1}, row{"FLUSHALL", "OK"})
}

// TestR13_NobodySeesTheHeap: one script on two spaces, one of another seed and with other draws, whose heap is collected and resized all the time.
func TestR13_NobodySeesTheHeap(t *testing.T) {
	s := fed(t)
	other, e := space.New(4000, 99)
	if e != api.OK {
		t.Fatalf("New: %d", e)
	}
	fill(t, other)
	// The scans hang on the seed.
	lines := slices.DeleteFunc(slices.Concat(every, every, every), func(line string) bool { return strings.HasPrefix(line, "SCAN") })
	for i := range lines {
		line := lines[i*37%len(lines)]
		if got, want := told(do(other, 0, line)), told(do(s, 0, line)); got != want || picture(s) != picture(other) {
			t.Errorf("%s: %s and %s", line, got, want)
		}
		refed(t, s)
		refed(t, other)
		other.Heap().Collect()
		other.Heap().Resize(64 << (i % 6))
		other.Draw([]byte{byte(i * 29), 255, 7})
	}
	if len(lines)%37 == 0 {
		t.Error("not every command was given")
	}
}

// TestP15_9_MovedAboutTakesNoMore: the cost is what it is under the new name, and no more.
func TestP15_9_MovedAboutTakesNoMore(t *testing.T) {
	for kind, v := range kinds()[1:] {
		s := made(t, 4000)
		store(t, s, "k", v, 50)
		for _, c := range []struct {
			line string
			db   int
			key  string
		}{
			{"RENAME k " + wide(100), 0, wide(100)}, {"RENAMENX " + wide(100) + ` ""`, 0, ""}, {`MOVE "" 2`, 2, ""}, {"SWAPDB 2 1", 1, ""}, {`@1 RENAME "" 123456789`, 1, "123456789"}, {"SWAPDB 0 1", 0, "123456789"},
		} {
			play(t, s, 0, row{c.line, nil})
			if want := costOf(len(c.key), kind+1); s.Cost() != want || s.CostOf(c.db, []byte(c.key)) != want {
				t.Errorf("behind %s: cost %d, %d; want %d", brief(c.line), s.Cost(), s.CostOf(c.db, []byte(c.key)), want)
			}
			wantAt(t, s, at(c.db, c.key), v, 50)
		}
		if board.Check(args("RENAME", "a", "b")) != api.OK {
			t.Error("Check")
		}
		wantRoom(t, s)
	}
}
