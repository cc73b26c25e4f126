package board_test

import (
	"fmt"
	"testing"

	"larder/api"
	"larder/space"
)

// TestP15_5_SwapDB: keys of one database, of the other, and of both, alike or not.
func TestP15_5_SwapDB(t *testing.T) {
	s := made(t, 8000)
	for db, names := range [][]string{{"a", "both", "alike", "until"}, {"b", "both", "alike", "until"}, {"c"}} {
		for i, name := range names {
			storeIn(t, s, db, name, kinds()[1+(i+db)%5], uint64(50*(db+1)))
		}
	}
	for db := range 2 {
		storeIn(t, s, db, "alike", listOf("x y"), 70)
		storeIn(t, s, db, "until", textOf("v"), uint64(80+db))
	}
	before := picture(s)
	play(t, s, 0, row{"@3 SWAPDB 0 1", "OK"})
	wantChanged(t, s, at(0, "a"), at(0, "b"), at(0, "both"), at(0, "until"), at(1, "a"), at(1, "b"), at(1, "both"), at(1, "until"))
	wantAt(t, s, at(1, "a"), kinds()[1], 50)
	wantAt(t, s, at(0, "b"), kinds()[2], 100)
	wantAt(t, s, at(0, "both"), kinds()[3], 100)
	wantAt(t, s, at(1, "both"), kinds()[2], 50)
	wantAt(t, s, at(0, "alike"), listOf("x y"), 70)
	wantAt(t, s, at(0, "until"), textOf("v"), 81)
	wantAt(t, s, at(1, "until"), textOf("v"), 80)
	wantAt(t, s, at(2, "c"), kinds()[3], 150)
	play(t, s, 0, row{"KEYS *", bulks("alike b both until")}, row{"@1 KEYS *", bulks("a alike both until")}, row{"SWAPDB 1 0", "OK"})
	if picture(s) != before {
		t.Errorf("back again there is\n%s\nand was\n%s", picture(s), before)
	}
	for db := range 4 {
		play(t, s, 0, row{fmt.Sprintf("SWAPDB %d %d", db, db), "OK"})
		wantChanged(t, s)
	}
	if picture(s) != before {
		t.Errorf("with itself there is\n%s\nand was\n%s", picture(s), before)
	}
	// With a database that is empty.
	play(t, s, 0, row{"SWAPDB 3 2", "OK"})
	wantChanged(t, s, at(2, "c"), at(3, "c"))
	wantAt(t, s, at(3, "c"), kinds()[3], 150)
	play(t, s, 0, row{"SWAPDB 2 2", "OK"}, row{"@2 DBSIZE", 0})
}

func TestP15_5_SwapDBRefused(t *testing.T) {
	s := made(t, 4000)
	store(t, s, "k", textOf("v"), 0)
	play(t, s, 0,
		row{"SWAPDB 0 4", api.BadDB}, row{"SWAPDB 4 0", api.BadDB}, row{"SWAPDB -1 0", api.BadDB}, row{"SWAPDB 0 -1", api.BadDB}, row{"SWAPDB 4 4", api.BadDB}, row{"SWAPDB " + greatest + " " + least, api.BadDB}, row{"SWAPDB x 0", api.BadInt}, row{"SWAPDB 0 x", api.BadInt}, row{"SWAPDB x 4", api.BadInt}, row{"SWAPDB 4 x", api.BadDB}, row{`SWAPDB "" 0`, api.BadInt}, row{"SWAPDB 00 1", api.BadInt}, row{"SWAPDB 0 1.", api.BadInt}, row{"SWAPDB 0 9223372036854775808", api.BadInt})
}

func TestP15_5_Flush(t *testing.T) {
	fill := func() (*space.Space, string) {
		s := made(t, 8000)
		rest := ""
		for db := range api.MaxDB {
			for i, v := range kinds()[1:] {
				storeIn(t, s, db, fmt.Sprintf("k%d%d", db, i), v, uint64(50*(i%2)))
			}
			if db == 1 {
				rest = picture(s)
			}
		}
		return s, rest
	}
	s, _ := fill()
	play(t, s, 0, row{"DBSIZE", 5}, row{"@2 FLUSHDB", "OK"}, row{"@2 DBSIZE", 0}, row{"@2 KEYS *", "[]"}, row{"@1 DBSIZE", 5}, row{"@3 DBSIZE", 5})
	play(t, s, 0, row{"@2 FLUSHDB", "OK"})
	wantChanged(t, s)
	play(t, s, 0, row{"@3 FLUSHDB", "OK"})
	var gone []api.Place
	for i := range 5 {
		gone = append(gone, at(3, fmt.Sprint("k3", i)))
	}
	wantChanged(t, s, gone...)
	if _, rest := fill(); picture(s) != rest {
		t.Errorf("there is left\n%s", picture(s))
	}
	s, _ = fill()
	play(t, s, 0, row{"@2 FLUSHALL", "OK"})
	if len(s.Changed()) != 20 || picture(s) != "" || s.Cost() != 0 {
		t.Errorf("changed %v, left %s", s.Changed(), picture(s))
	}
	play(t, s, 0, row{"MEMORY USED", 0}, row{"FLUSHALL", "OK"})
	wantChanged(t, s)
	wantRoom(t, s)
	play(t, s, 0, row{"FLUSHALL x", api.BadArity}, row{"FLUSHDB 0", api.BadArity}, row{"DBSIZE 0", api.BadArity})
}

func TestP15_5_Keys(t *testing.T) {
	s := made(t, 8000)
	for i, key := range []string{"b", "", "ab", "a", "a\x00", "A", "\xff", "aa", "[", "*", "a*", "\\"} {
		store(t, s, key, kinds()[1+i%5], 0)
	}
	storeIn(t, s, 1, "elsewhere", textOf("v"), 0)
	store(t, s, "due", textOf("v"), 9)
	play(t, s, 0,
		row{"KEYS *", bulks(`"" * A [ \ a "a\x00" a* aa ab b due "\xff"`)}, row{"KEYS a", bulks("a")}, row{"KEYS a*", bulks(`a "a\x00" a* aa ab`)}, row{"KEYS a?", bulks(`"a\x00" a* aa ab`)}, row{"KEYS ?", bulks(`* A [ \ a b "\xff"`)}, row{"KEYS [ab]", bulks("a b")}, row{"KEYS [^ab]", bulks(`* A [ \ "\xff"`)}, row{`KEYS ""`, bulks(`""`)}, row{`KEYS \*`, bulks("*")}, row{`KEYS a\*`, bulks("a*")}, row{`KEYS \`, bulks(`\`)}, row{"KEYS [", "[]"}, row{"KEYS [[]", bulks("[")}, row{"KEYS none", "[]"}, row{"KEYS elsewhere", "[]"}, row{"@1 KEYS *e", bulks("elsewhere")}, row{"@2 KEYS *", "[]"}, row{"KEYS d*", bulks("due")}, row{"KEYS", api.BadArity}, row{"KEYS a b", api.BadArity})
	wantChanged(t, s)
	play(t, s, 9, row{"KEYS d*", "[]"}, row{"DBSIZE", 12})
	// Sorted, whatever their hashes.
	many := made(t, 16384)
	for _, name := range byHash(3, namesOf(300)) {
		store(t, many, name, textOf(""), 0)
	}
	names := sorted(namesOf(300))
	play(t, many, 0, row{"KEYS *", quoted(names)}, row{"DBSIZE", 300})
}
