package board_test

import (
	"cmp"
	"fmt"
	"slices"
	"strconv"
	"strings"
	"testing"

	"larder/api"
	"larder/space"
	"larder/word"
)

// byHash tells names in hash order.
func byHash(seed uint64, names []string) []string {
	return slices.SortedFunc(slices.Values(names), func(a, b string) int {
		return cmp.Or(cmp.Compare(word.Hash(seed, []byte(a)), word.Hash(seed, []byte(b))), strings.Compare(a, b))
	})
}

func sorted(names []string) []string { return slices.Sorted(slices.Values(names)) }

// paged tells by P6.9's words what a table's Scan of these names answers.
func paged(seed, cursor uint64, n int, names []string) (uint64, []string) {
	var found []string
	last := uint64(0)
	for _, name := range byHash(seed, names) {
		hash := word.Hash(seed, []byte(name))
		if hash < cursor {
			continue
		}
		if len(found) >= n && hash != last {
			return hash, found
		}
		found, last = append(found, name), hash
	}
	return 0, found
}

// namesOf is so many names.
func namesOf(n int) []string {
	var found []string
	for i := range n {
		found = append(found, "n"+strconv.Itoa(i))
	}
	return found
}

// kindOf is the kind of value that a name has in a filled space.
func kindOf(name string) int { return 1 + int(word.Hash(1, []byte(name))%5) }

// filled is a space of a seed with these names as keys in database 0, and others in database 1.
func filled(t *testing.T, seed uint64, names []string) *space.Space {
	t.Helper()
	s, e := space.New(16384, seed)
	if e != api.OK {
		t.Fatalf("New: %d", e)
	}
	for _, name := range names {
		store(t, s, name, kinds()[kindOf(name)], 0)
	}
	storeIn(t, s, 1, "elsewhere", textOf("v"), 0)
	return s
}

// wantPage holds SCAN, with these words behind it, against the names that it is to tell and the cursor to go on from.
func wantPage(t *testing.T, s *space.Space, words string, next uint64, names []string) {
	t.Helper()
	cursor := strconv.Quote(strconv.FormatUint(next, 10))
	play(t, s, 0, row{"SCAN " + words, "[" + cursor + " " + quoted(names) + "]"})
	wantChanged(t, s)
}

func TestP15_7_Pages(t *testing.T) {
	for _, n := range []int{0, 1, 2, 9, 10, 11, 40, 70} {
		for _, seed := range []uint64{0, 7, 1<<64 - 1} {
			names := namesOf(n)
			s := filled(t, seed, names)
			next, found := paged(seed, 0, 10, names)
			wantPage(t, s, "0", next, found)
			for _, count := range []int{1, 2, 3, 10, 39, 40, 41, 5000} {
				cursor := uint64(0)
				for {
					next, found := paged(seed, cursor, count, names)
					wantPage(t, s, fmt.Sprintf("%d COUNT %d", cursor, count), next, found)
					if cursor = next; cursor == 0 {
						break
					}
				}
			}
			for _, cursor := range []uint64{1, 1 << 32, 1 << 63, 1<<64 - 1} {
				next, found := paged(seed, cursor, 10, names)
				wantPage(t, s, fmt.Sprint(cursor), next, found)
			}
		}
	}
}

// TestP15_7_Sieves: patterns and types; the count counts keys ahead of both.
func TestP15_7_Sieves(t *testing.T) {
	names := append(namesOf(40), "", "*", "N1", "\x00", "[")
	s := filled(t, seed, names)
	types := []string{"", "string", "list", "hash", "set", "zset"}
	for _, c := range []struct {
		pattern string
		fits    func(name string) bool
	}{
		{"*", func(string) bool { return true }},
		{"n1*", func(n string) bool { return strings.HasPrefix(n, "n1") }},
		{"n?", func(n string) bool { return len(n) == 2 && n[0] == 'n' }},
		{"[nN]1", func(n string) bool { return n == "n1" || n == "N1" }},
		{`\*`, func(n string) bool { return n == "*" }},
		{`""`, func(n string) bool { return n == "" }},
		{"none", func(string) bool { return false }},
	} {
		for kind, name := range types {
			for _, count := range []int{1, 3, 10, 100} {
				for cursor, round := uint64(0), 0; round == 0 || cursor != 0; round++ {
					next, found := paged(seed, cursor, count, names)
					found = slices.DeleteFunc(found, func(n string) bool { return !c.fits(n) || kind != 0 && kindOf(n) != kind })
					options := []string{"MATCH " + c.pattern, fmt.Sprint("COUNT ", count)}
					if kind != 0 {
						options = append(options, "TYPE "+name)
					}
					if round%2 == 1 {
						slices.Reverse(options)
						options[0] = strings.ToLower(options[0])
					}
					wantPage(t, s, fmt.Sprint(cursor, " ", strings.Join(options, " ")), next, found)
					cursor = next
				}
			}
		}
	}
}

func TestP15_7_Words(t *testing.T) {
	s := made(t, 4000)
	for i, v := range kinds()[1:] {
		store(t, s, fmt.Sprint("k", i+1), v, 50)
	}
	for i, name := range []string{"string", "list", "hash", "set", "zset"} {
		for _, w := range []string{name, strings.ToUpper(name), strings.ToUpper(name[:2]) + name[2:]} {
			wantPage(t, s, "0 TYPE "+w, 0, []string{fmt.Sprint("k", i+1)})
		}
	}
	play(t, s, 0,
		row{"SCAN", api.BadArity}, row{"SCAN -1", api.BadCursor}, row{"SCAN x", api.BadCursor}, row{`SCAN ""`, api.BadCursor}, row{"SCAN 01", api.BadCursor}, row{"SCAN +1", api.BadCursor}, row{"SCAN 18446744073709551616", api.BadCursor}, row{"SCAN 18446744073709551615", `["0" []]`}, row{"SCAN x COUNT 0", api.BadCursor}, row{"SCAN x y", api.BadCursor},
		row{"SCAN 0 COUNT 0", api.BadRange}, row{"SCAN 0 COUNT -1", api.BadRange}, row{"SCAN 0 COUNT " + least, api.BadRange}, row{"SCAN 0 COUNT x", api.BadInt}, row{`SCAN 0 COUNT ""`, api.BadInt}, row{"SCAN 0 COUNT 9223372036854775808", api.BadInt}, row{"SCAN 0 COUNT 0 x", api.BadRange}, row{"SCAN 0 x COUNT 0", api.BadSyntax},
		row{"SCAN 0 COUNT", api.BadSyntax}, row{"SCAN 0 MATCH", api.BadSyntax}, row{"SCAN 0 TYPE", api.BadSyntax}, row{"SCAN 0 COUNT 1 MATCH", api.BadSyntax}, row{"SCAN 0 COUNT 1 COUNT 1", api.BadSyntax}, row{"SCAN 0 MATCH * MATCH *", api.BadSyntax}, row{"SCAN 0 TYPE set TYPE set", api.BadSyntax}, row{"SCAN 0 TYPE set COUNT 1 TYPE", api.BadSyntax},
		row{"SCAN 0 TYPE none", api.BadSyntax}, row{"SCAN 0 TYPE NONE", api.BadSyntax}, row{"SCAN 0 TYPE text", api.BadSyntax}, row{`SCAN 0 TYPE ""`, api.BadSyntax}, row{"SCAN 0 TYPE strings", api.BadSyntax}, row{"SCAN 0 TYPE lis", api.BadSyntax}, row{"SCAN 0 TYPE *", api.BadSyntax}, row{"SCAN 0 TYPE 1", api.BadSyntax}, row{"SCAN 0 TYPE none COUNT 0", api.BadSyntax}, row{"SCAN 0 KIND set", api.BadSyntax}, row{"SCAN 0 5", api.BadSyntax}, row{`SCAN 0 ""`, api.BadSyntax},
		row{"SCAN 0 MATCH COUNT COUNT 5", `["0" []]`}, row{"SCAN 0 MATCH k1 TYPE list", `["0" []]`}, row{"SCAN 0 MATCH k2 TYPE list", `["0" ["k2"]]`}, row{"@1 SCAN 0", `["0" []]`})
	play(t, s, 50, row{"SCAN 0", `["0" []]`})
	many := filled(t, 3, namesOf(100))
	next, found := paged(3, 0, 1000, namesOf(100))
	for _, count := range []string{"100", "101", "65535", "65536", "65537", "4294967296", "4294967297", greatest} {
		wantPage(t, many, "0 COUNT "+count, next, found)
	}
}

// TestP15_7_AllIsMetOnce: each key that is there all the while, whatever else comes and goes between the pages.
func TestP15_7_AllIsMetOnce(t *testing.T) {
	s := filled(t, 11, namesOf(50))
	met := map[string]int{}
	for cursor, round := "0", 0; round == 0 || cursor != "0"; round++ {
		r := do(s, 0, "SCAN "+cursor+" COUNT 3")
		for _, key := range r.List[1].List {
			met[string(key.Text)]++
		}
		cursor = string(r.List[0].Text)
		for i := range 20 {
			do(s, 0, fmt.Sprintf("SET new%d-%d x", round, i))
			do(s, 0, fmt.Sprintf("DEL new%d-%d", round-1, i))
		}
	}
	for _, name := range namesOf(50) {
		if met[name] != 1 {
			t.Errorf("%s was met %d times", name, met[name])
		}
	}
}
