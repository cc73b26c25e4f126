package board_test

import (
	"fmt"
	"testing"

	"larder/api"
)

// TestP15_5_TypesAndCounts: of a key of each kind, and of one that isn't there.
func TestP15_5_TypesAndCounts(t *testing.T) {
	names := []string{"none", "string", "list", "hash", "set", "zset"}
	for kind, v := range kinds() {
		s := made(t, 4000)
		there := 0
		if kind != api.ValNone {
			store(t, s, "k", v, 50)
			there = 1
		}
		storeIn(t, s, 1, "other", textOf("v"), 0)
		before := picture(s)
		play(t, s, 0, row{"TYPE k", names[kind]}, row{"EXISTS k", there}, row{"EXISTS k k other k", 3 * there}, row{"TOUCH k", there}, row{"TOUCH other k k", 2 * there}, row{"EXISTS K", 0}, row{`EXISTS ""`, 0}, row{"DBSIZE", there}, row{"@1 EXISTS k other", 1})
		wantChanged(t, s)
		if picture(s) != before {
			t.Errorf("something has changed: %s", picture(s))
		}
		play(t, s, 0, row{"DEL other K k none k", there})
		wantGone(t, s, "k")
		if there == 1 {
			wantChanged(t, s, at(0, "k"))
		}
		play(t, s, 0, row{"DEL k", 0}, row{"TYPE k", "none"}, row{"EXISTS k", 0}, row{"@1 DBSIZE", 1})
		wantChanged(t, s)
	}
	s := made(t, 4000)
	store(t, s, "", textOf(""), 0)
	play(t, s, 0, row{`TYPE ""`, "string"}, row{`EXISTS "" ""`, 2}, row{`DEL "" ""`, 1}, row{`TYPE ""`, "none"})
	for i := range 9 {
		store(t, s, fmt.Sprint(i), textOf(""), 0)
	}
	play(t, s, 0, row{"DEL 0 3 6 9 3", 3}, row{"KEYS *", bulks("1 2 4 5 7 8")})
}

// TestP15_5_Rename: a value of each kind over each kind, with a deadline and without one.
func TestP15_5_Rename(t *testing.T) {
	for _, v := range kinds()[1:] {
		for kind, w := range kinds() {
			for _, deadline := range []uint64{0, 50} {
				s := made(t, 4000)
				store(t, s, "k", v, deadline)
				if kind != api.ValNone {
					store(t, s, "n", w, 90)
				}
				before := picture(s)
				if kind != api.ValNone {
					play(t, s, 0, row{"RENAMENX k n", 0})
					wantChanged(t, s)
				}
				play(t, s, 0, row{"RENAMENX k k", 0}, row{"RENAME k k", "OK"})
				wantChanged(t, s)
				if picture(s) != before {
					t.Errorf("something has changed: %s", picture(s))
				}
				line, want := "RENAME k n", any("OK")
				if kind == api.ValNone && deadline != 0 {
					line, want = "RENAMENX k n", 1
				}
				play(t, s, 0, row{line, want})
				wantAt(t, s, at(0, "n"), v, deadline)
				wantGone(t, s, "k")
				if show(v) == show(w) && deadline == 90 {
					continue
				}
				wantChanged(t, s, at(0, "k"), at(0, "n"))
			}
		}
	}
}

func TestP15_5_RenameOfNothing(t *testing.T) {
	s := made(t, 4000)
	store(t, s, "n", textOf("v"), 50)
	storeIn(t, s, 1, "k", textOf("v"), 0)
	play(t, s, 0, row{"RENAME k n", api.BadKey}, row{"RENAME k k", api.BadKey}, row{"RENAMENX k n", api.BadKey}, row{"RENAMENX k k", api.BadKey}, row{"RENAMENX k m", api.BadKey}, row{"@1 RENAME n k", api.BadKey}, row{"@1 RENAME k n", "OK"}, row{"@1 KEYS *", bulks("n")}, row{"PTTL n", 50}, row{`RENAME n ""`, "OK"}, row{`RENAME "" ""`, "OK"}, row{`RENAMENX "" n`, 1}, row{"PTTL n", 50})
	wantAt(t, s, at(0, "n"), textOf("v"), 50)
	wantAt(t, s, at(1, "n"), textOf("v"), 0)
	// What had the same value and the same deadline has not changed.
	store(t, s, "a", listOf("x y"), 50)
	store(t, s, "b", listOf("x y"), 50)
	play(t, s, 0, row{"RENAME a b", "OK"})
	wantChanged(t, s, at(0, "a"))
	// What is due is not there.
	do(s, 50, "DBSIZE")
	play(t, s, 50, row{"RENAME b c", api.BadKey})
	store(t, s, "a", textOf("v"), 0)
	store(t, s, "b", textOf("v"), 60)
	play(t, s, 60, row{"RENAMENX a b", 1})
	wantAt(t, s, at(0, "b"), textOf("v"), 0)
}

// TestP15_5_Copy: a value of each kind over each kind, into the database itself and into another.
func TestP15_5_Copy(t *testing.T) {
	for _, v := range kinds()[1:] {
		for kind, w := range kinds() {
			for _, db := range []int{0, 2} {
				s := made(t, 4000)
				in := ""
				if db != 0 {
					in = " DB 2"
				}
				store(t, s, "k", v, 50)
				if kind != api.ValNone {
					storeIn(t, s, db, "n", w, 90)
					play(t, s, 0, row{"COPY k n" + in, 0})
					wantChanged(t, s)
					wantAt(t, s, at(db, "n"), w, 90)
					play(t, s, 0, row{"COPY k n REPLACE" + in, 1})
				} else {
					play(t, s, 0, row{"COPY k n" + in, 1})
				}
				wantChanged(t, s, at(db, "n"))
				wantAt(t, s, at(0, "k"), v, 50)
				wantAt(t, s, at(db, "n"), v, 50)
				// Once more it differs in nothing.
				play(t, s, 0, row{"COPY k n" + in + " REPLACE", 1})
				wantChanged(t, s)
				// The two have nothing in common.
				play(t, s, 0, row{"PERSIST k", 1}, row{"COPY k n" + in + " REPLACE", 1})
				wantAt(t, s, at(db, "n"), v, 0)
				play(t, s, 0, row{"DEL k", 1})
				wantAt(t, s, at(db, "n"), v, 0)
			}
		}
	}
}

func TestP15_5_CopiesAreTwoValues(t *testing.T) {
	s := made(t, 4000)
	for i, v := range kinds()[1:] {
		store(t, s, fmt.Sprint("k", i+1), v, 0)
		play(t, s, 0, row{fmt.Sprintf("COPY k%d c%d", i+1, i+1), 1})
	}
	play(t, s, 0, row{"APPEND k1 x", 2}, row{"RPUSH k2 x", 4}, row{"HSET k3 f z", 0}, row{"SADD k4 z", 1}, row{"ZADD k5 5 z 9 a", 1})
	for i, v := range kinds()[1:] {
		wantAt(t, s, at(0, fmt.Sprint("c", i+1)), v, 0)
	}
	play(t, s, 0, row{"APPEND c1 y", 2}, row{"GET k1", `"vx"`}, row{"LPOP c2", `"b"`}, row{"LLEN k2", 4}, row{"HDEL c3 f", 1}, row{"HGET k3 f", `"z"`}, row{"SREM c4 m", 1}, row{"SMEMBERS k4", bulks("m n z")}, row{"ZPOPMIN c5", bulks("q -3")}, row{"ZRANGE k5 0 -1", bulks("q p z a")})
}

func TestP15_5_CopyRefused(t *testing.T) {
	s := made(t, 4000)
	store(t, s, "k", textOf("v"), 0)
	storeIn(t, s, 1, "k", textOf("w"), 0)
	for _, source := range []string{"k", "none"} {
		play(t, s, 0,
			row{fmt.Sprintf("COPY %s %s", source, source), api.BadSame}, row{fmt.Sprintf("COPY %s %s DB 0", source, source), api.BadSame}, row{fmt.Sprintf("COPY %s %s REPLACE", source, source), api.BadSame}, row{fmt.Sprintf("@1 COPY %s %s REPLACE DB 1", source, source), api.BadSame},
			// The options are read ahead of that.
			row{fmt.Sprintf("COPY %s %s x", source, source), api.BadSyntax}, row{fmt.Sprintf("COPY %s %s DB 0 DB 1", source, source), api.BadSyntax}, row{fmt.Sprintf("COPY %s %s DB 4", source, source), api.BadDB}, row{fmt.Sprintf("COPY %s %s REPLACE DB x", source, source), api.BadInt})
	}
	play(t, s, 0,
		row{"COPY k q x", api.BadSyntax}, row{"COPY k q DB", api.BadSyntax}, row{"COPY k q REPLACE DB", api.BadSyntax}, row{"COPY k q DB 1 DB", api.BadSyntax}, row{"COPY k q REPLACE 1", api.BadSyntax}, row{"COPY k q REPLACE REPLACE", api.BadSyntax}, row{`COPY k q ""`, api.BadSyntax}, row{"COPY k q 1", api.BadSyntax},
		row{"COPY k q DB 4", api.BadDB}, row{"COPY k q DB -1", api.BadDB}, row{"COPY k q DB " + greatest, api.BadDB}, row{"COPY k q DB " + least, api.BadDB}, row{"COPY k q DB 4294967296", api.BadDB}, row{"COPY k q DB 9223372036854775808", api.BadInt}, row{"COPY k q DB 01", api.BadInt}, row{`COPY k q DB ""`, api.BadInt}, row{"COPY k q DB REPLACE", api.BadInt}, row{"COPY k q DB 4 x", api.BadDB}, row{"COPY k q x DB 4", api.BadSyntax},
		row{"COPY none q", 0}, row{"COPY none q DB 3 REPLACE", 0}, row{"COPY none k REPLACE", 0}, row{"COPY k k DB 1", 0}, row{"COPY k k DB 1 REPLACE", 1}, row{"COPY k k DB 3", 1}, row{"@3 COPY k k DB 2", 1}, row{"@2 GET k", `"v"`}, row{"COPY k DB REPLACE", 1}, row{"COPY DB REPLACE DB 1 REPLACE", 1}, row{"@1 KEYS *", bulks("REPLACE k")})
	// A destination that is due is not there; nor is a source.
	store(t, s, "a", textOf("1"), 70)
	store(t, s, "b", textOf("2"), 60)
	play(t, s, 60, row{"COPY a b", 1}, row{"PTTL b", 10})
	play(t, s, 70, row{"COPY a c", 0}, row{"EXISTS a b c", 0})
}

// TestP15_5_Move: a value of each kind, with a deadline and without one.
func TestP15_5_Move(t *testing.T) {
	for _, v := range kinds()[1:] {
		for _, deadline := range []uint64{0, 50} {
			s := made(t, 4000)
			store(t, s, "k", v, deadline)
			storeIn(t, s, 1, "k", textOf("there"), 0)
			play(t, s, 0, row{"MOVE k 1", 0})
			wantChanged(t, s)
			play(t, s, 0, row{"MOVE k 3", 1})
			wantChanged(t, s, at(0, "k"), at(3, "k"))
			wantGone(t, s, "k")
			wantAt(t, s, at(3, "k"), v, deadline)
			play(t, s, 0, row{"MOVE k 3", 0}, row{"MOVE k 2", 0}, row{"@3 MOVE k 0", 1})
			wantAt(t, s, at(0, "k"), v, deadline)
			wantAt(t, s, at(1, "k"), textOf("there"), 0)
		}
	}
	s := made(t, 4000)
	store(t, s, "k", textOf("v"), 50)
	play(t, s, 0,
		row{"MOVE k 0", api.BadSame}, row{"MOVE none 0", api.BadSame}, row{"@2 MOVE k 2", api.BadSame}, row{"MOVE k 4", api.BadDB}, row{"MOVE k -1", api.BadDB}, row{"MOVE none 4", api.BadDB}, row{"MOVE k " + greatest, api.BadDB}, row{"MOVE k " + least, api.BadDB}, row{"MOVE k x", api.BadInt}, row{`MOVE k ""`, api.BadInt}, row{"MOVE k +1", api.BadInt}, row{"MOVE k 9223372036854775808", api.BadInt}, row{"MOVE none 1", 0})
	// In the other database such a key is due: it is not there.
	storeIn(t, s, 1, "k", textOf("w"), 20)
	play(t, s, 19, row{"MOVE k 1", 0})
	play(t, s, 20, row{"MOVE k 1", 1})
	wantAt(t, s, at(1, "k"), textOf("v"), 50)
	play(t, s, 50, row{"@1 MOVE k 0", 0})
}
