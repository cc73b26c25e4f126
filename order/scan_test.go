package order_test

import (
	"cmp"
	"fmt"
	"slices"
	"strconv"
	"strings"
	"testing"

	"larder/api"
	"larder/space"
	"larder/word"
)

// byHash tells names in hash order.
func byHash(seed uint64, names []string) []string {
	return slices.SortedFunc(slices.Values(names), func(a, b string) int {
		return cmp.Or(cmp.Compare(word.Hash(seed, []byte(a)), word.Hash(seed, []byte(b))), strings.Compare(a, b))
	})
}

// paged tells by P6.9's words what a table's Scan of these names answers.
func paged(seed, cursor uint64, n int, names []string) (uint64, []string) {
	var found []string
	last := uint64(0)
	for _, name := range byHash(seed, names) {
		hash := word.Hash(seed, []byte(name))
		if hash < cursor {
			continue
		}
		if len(found) >= n && hash != last {
			return hash, found
		}
		found, last = append(found, name), hash
	}
	return 0, found
}

// namesOf is so many names.
func namesOf(n int) []string {
	var found []string
	for i := range n {
		found = append(found, "n"+strconv.Itoa(i))
	}
	return found
}

// scoreOf is the score that a name has in a filled space.
func scoreOf(name string) int64 { return int64(word.Hash(1, []byte(name))%9) - 4 }

// filled is a space of a seed with a ranked set z of these names.
func filled(t *testing.T, seed uint64, names []string) *space.Space {
	t.Helper()
	s, e := space.New(16384, seed)
	if e != api.OK {
		t.Fatalf("New: %d", e)
	}
	v := api.Value{Kind: api.ValRank}
	for _, name := range names {
		v.Ranked = append(v.Ranked, api.Scored{Member: []byte(name), Score: scoreOf(name)})
	}
	store(t, s, "z", v, 0)
	return s
}

// wantPage holds ZSCAN, with these words behind the key, against the names that it is to tell and the cursor to go on from.
func wantPage(t *testing.T, s *space.Space, words string, next uint64, names []string) {
	t.Helper()
	var pairs []string
	for _, name := range names {
		pairs = append(pairs, name, fmt.Sprint(scoreOf(name)))
	}
	cursor := strconv.Quote(strconv.FormatUint(next, 10))
	play(t, s, 0, row{"ZSCAN z " + words, "[" + cursor + " " + quoted(pairs) + "]"})
	wantChanged(t, s)
}

func TestP14_18_Pages(t *testing.T) {
	for _, n := range []int{1, 2, 9, 10, 11, 40, 70} {
		for _, seed := range []uint64{0, 7, 1<<64 - 1} {
			names := namesOf(n)
			s := filled(t, seed, names)
			next, found := paged(seed, 0, 10, names)
			wantPage(t, s, "0", next, found)
			for _, count := range []int{1, 2, 3, 10, 39, 40, 41, 5000} {
				cursor := uint64(0)
				for {
					next, found := paged(seed, cursor, count, names)
					wantPage(t, s, fmt.Sprintf("%d COUNT %d", cursor, count), next, found)
					if cursor = next; cursor == 0 {
						break
					}
				}
			}
			for _, cursor := range []uint64{1, 1 << 32, 1 << 63, 1<<64 - 1} {
				next, found := paged(seed, cursor, 10, names)
				wantPage(t, s, fmt.Sprint(cursor), next, found)
			}
		}
	}
}

// TestP14_18_AsATable: the page is that of a table: the keys of a database are one.
func TestP14_18_AsATable(t *testing.T) {
	names := append(namesOf(60), "", "\x00", wide(400))
	s := filled(t, 99, names)
	for _, name := range names {
		s.Run(0, func() api.Reply {
			s.Store(1, []byte(name), api.Value{Kind: api.ValText})
			return api.Reply{}
		})
	}
	for _, count := range []int{1, 4, 10, 100} {
		for cursor, round := uint64(0), 0; round == 0 || cursor != 0; round++ {
			next, keys := s.Scan(1, cursor, count)
			var found []string
			for _, key := range keys {
				found = append(found, string(key))
			}
			wantPage(t, s, fmt.Sprintf("%d COUNT %d", cursor, count), next, found)
			cursor = next
		}
	}
}

func TestP14_18_Patterns(t *testing.T) {
	names := append(namesOf(30), "", "*", "N1", "\x00", "[", wide(600))
	s := filled(t, seed, names)
	for _, c := range []struct {
		pattern string
		fits    func(name string) bool
	}{
		{"*", func(string) bool { return true }},
		{"n1*", func(n string) bool { return strings.HasPrefix(n, "n1") }},
		{"n?", func(n string) bool { return len(n) == 2 && n[0] == 'n' }},
		{"n[0-4]", func(n string) bool { return len(n) == 2 && n[0] == 'n' && n[1] < '5' }},
		{`"\\*"`, func(n string) bool { return n == "*" }},
		{`""`, func(n string) bool { return n == "" }},
		{"N1", func(n string) bool { return n == "N1" }},
		{"none", func(string) bool { return false }},
		{"*!", func(string) bool { return false }},
		{`"\x00"`, func(n string) bool { return n == "\x00" }},
		{wide(600), func(n string) bool { return n == wide(600) }},
		{"[", func(string) bool { return false }},
		{"COUNT", func(string) bool { return false }},
	} {
		for _, count := range []int{0, 1, 7, 100} {
			words, n := "", 10
			if count > 0 {
				words, n = fmt.Sprintf(" COUNT %d", count), count
			}
			// Counted is ahead of the sieve.
			next, found := paged(seed, 0, n, names)
			found = slices.DeleteFunc(found, func(name string) bool { return !c.fits(name) })
			wantPage(t, s, "0 MATCH "+c.pattern+words, next, found)
			wantPage(t, s, "0"+words+" MATCH "+c.pattern, next, found)
		}
	}
}

// TestP14_18_NamesOfOneHash: they are told together, whatever COUNT says.
func TestP14_18_NamesOfOneHash(t *testing.T) {
	var names []string
	for n := range uint64(3) {
		for _, hash := range []uint64{0, 5 << 60, 1<<64 - 1} {
			names = append(names, hashed(seed, hash, n))
		}
	}
	s := filled(t, seed, names)
	for _, count := range []int{1, 2, 3, 4, 6, 7, 9} {
		for _, cursor := range []uint64{0, 1, 5 << 60, 5<<60 + 1, 1<<64 - 1} {
			next, found := paged(seed, cursor, count, names)
			if len(found)%3 != 0 {
				t.Fatalf("%d names", len(found))
			}
			wantPage(t, s, fmt.Sprintf("%d COUNT %d", cursor, count), next, found)
		}
	}
}

// mix is Mix of P1.11, and unmix its inverse.
func mix(x uint64) uint64 {
	x ^= x >> 32
	x *= 0xd6a5c39b71e4f28d
	x ^= x >> 29
	x *= 0xb34f6e1d9c2a7585
	return x ^ x>>32
}

func unmix(x uint64) uint64 {
	x ^= x >> 32
	x *= inverse(0xb34f6e1d9c2a7585)
	x ^= x>>29 ^ x>>58
	x *= inverse(0xd6a5c39b71e4f28d)
	return x ^ x>>32
}

// hashed makes a name of 16 bytes that has that hash; for each n it is another one.
func hashed(seed, hash, n uint64) string {
	b, _ := word.Unpack([]uint64{n, unmix(hash) ^ mix(mix(seed+16)^n)}, 16)
	if word.Hash(seed, b) != hash {
		panic("no name of that hash")
	}
	return string(b)
}

// inverse tells what an odd number is to be multiplied with to come to 1.
func inverse(x uint64) uint64 {
	y := x
	for range 6 {
		y *= 2 - x*y
	}
	return y
}

// TestP14_18_ThroughChanges: each member that is there all the while is told just once.
func TestP14_18_ThroughChanges(t *testing.T) {
	for _, count := range []int{1, 7} {
		names := namesOf(50)
		s := filled(t, seed, names)
		seen, cursor, round := map[string]int{}, "0", 0
		for round == 0 || cursor != "0" {
			r := do(s, 0, fmt.Sprintf("ZSCAN z %s COUNT %d", cursor, count))
			for i := 0; i < len(r.List[1].List); i += 2 {
				seen[string(r.List[1].List[i].Text)]++
			}
			cursor = string(r.List[0].Text)
			for i := range 8 {
				s.Draw([]byte{byte(round * i)})
				do(s, 0, fmt.Sprintf("ZADD z %d x%d.%d", i, round, i))
				do(s, 0, fmt.Sprintf("ZREM z x%d.%d", round-5, i))
				do(s, 0, fmt.Sprintf("ZINCRBY z %d %s", i, names[(round+i)%50]))
			}
			s.Heap().Collect()
			round++
		}
		for name, times := range seen {
			if times != 1 {
				t.Errorf("%s is told %d times", name, times)
			}
		}
		for _, name := range names {
			if seen[name] != 1 {
				t.Errorf("%s is told %d times", name, seen[name])
			}
		}
	}
}

func TestP14_18_WrongArguments(t *testing.T) {
	s := filled(t, seed, namesOf(3))
	store(t, s, "t", others(api.ValNone)[0], 0)
	store(t, s, "s", setOf("a"), 0)
	for _, c := range []row{
		{"18446744073709551616", api.BadCursor}, {"-1", api.BadCursor}, {"-0", api.BadCursor}, {"00", api.BadCursor}, {"01", api.BadCursor}, {"+1", api.BadCursor}, {`""`, api.BadCursor}, {"x", api.BadCursor}, {"1.0", api.BadCursor}, {`"1\x20"`, api.BadCursor}, {"x y", api.BadCursor}, {"-1 COUNT 0", api.BadCursor}, {"MATCH a", api.BadCursor},
		{"0 x", api.BadSyntax}, {`0 ""`, api.BadSyntax}, {"0 0", api.BadSyntax}, {"0 MATCH", api.BadSyntax}, {"0 COUNT", api.BadSyntax}, {"0 LIMIT 1", api.BadSyntax}, {"0 WITHSCORES", api.BadSyntax}, {"0 MATCH a MATCH a", api.BadSyntax}, {"0 MATCH a COUNT 1 MATCH a", api.BadSyntax}, {"0 COUNT 1 COUNT 1", api.BadSyntax}, {"0 COUNT 1 COUNT x", api.BadSyntax}, {"0 COUNT 1 COUNT", api.BadSyntax}, {"0 MATCH a COUNT", api.BadSyntax}, {"0 MATCH a x", api.BadSyntax}, {"0 x COUNT 0", api.BadSyntax}, {"0 MATCH MATCH a", api.BadSyntax},
		{"0 COUNT x", api.BadInt}, {"0 COUNT x COUNT 1", api.BadInt}, {`0 COUNT "" x`, api.BadInt}, {"0 COUNT 9223372036854775808", api.BadInt}, {"0 COUNT MATCH a", api.BadInt}, {"0 MATCH a COUNT 1.5", api.BadInt},
		{"0 COUNT 0", api.BadRange}, {"0 COUNT -1", api.BadRange}, {"0 COUNT " + least, api.BadRange}, {"0 COUNT 0 x", api.BadRange}, {"0 MATCH a COUNT 0 MATCH", api.BadRange},
	} {
		// What is wrong with the arguments comes ahead of the kind.
		play(t, s, 0, row{"ZSCAN z " + c.line, c.want}, row{"ZSCAN none " + c.line, c.want}, row{"ZSCAN t " + c.line, c.want})
	}
	play(t, s, 0, row{"ZSCAN s 0", api.BadKind}, row{"ZSCAN t 0", api.BadKind}, row{"ZSCAN t 5 COUNT 1 MATCH x", api.BadKind},
		row{"ZSCAN none 0", `["0" []]`}, row{"ZSCAN none 18446744073709551615 COUNT 1 MATCH *", `["0" []]`}, row{"ZSCAN none 5 MATCH x", `["0" []]`})
	next, found := paged(seed, 0, 1<<30, namesOf(3))
	wantPage(t, s, "0 COUNT "+greatest, next, found)
	wantPage(t, s, "0 COUNT 4294967296", next, found)
	wantPage(t, s, "0 COUNT 65536", next, found)
}
