package board_test

import (
	"strings"
	"testing"

	"larder/api"
	"larder/board"
)

// TestR11_TheOrderOfErrors: where several things are wrong, the earlier step of R11 decides.
func TestR11_TheOrderOfErrors(t *testing.T) {
	s := made(t, 256)
	store(t, s, "t", textOf("v"), 0)
	store(t, s, "l", listOf("x y"), 0)
	long, most := wide(api.MaxText+1), wide(api.MaxText)
	none := func(n int) []string { return make([]string, n) }
	for i, c := range []struct {
		db      int
		command []string
		want    api.Errno
	}{
		{9, nil, api.BadMany},
		{-1, append(none(128), long), api.BadMany},
		{-1, append([]string{"DEL"}, append(none(127), long)...), api.BadMany},
		{4, []string{"NOSUCH", long}, api.BadLong},
		{4, []string{long}, api.BadLong},
		{4, []string{"GET", long}, api.BadLong},
		{4, []string{"TTL", "a", "b"}, api.BadDB},
		{-1, []string{"NOSUCH"}, api.BadDB},
		{-1, []string{"GET"}, api.BadDB},
		{1 << 40, []string{"TTL", "a"}, api.BadDB},
		{3, []string{"NOSUCH"}, api.BadName},
		{0, none(128), api.BadName},
		{0, []string{"EXPIRE", "t"}, api.BadArity},
		{0, []string{"RENAME", "none"}, api.BadArity},
		{0, []string{"EXPIRE", "t", "x", "y"}, api.BadInt},
		{0, []string{"EXPIRE", "t", greatest, "y"}, api.BadTime},
		{0, []string{"EXPIRE", "t", "1", "y"}, api.BadSyntax},
		{0, []string{"RENAME", "none", most}, api.BadKey},
		{0, []string{"RENAMENX", "none", most}, api.BadKey},
		{0, []string{"RENAME", "t", most}, api.BadOOM},
		{0, []string{"RENAMENX", "t", most}, api.BadOOM},
		{0, []string{"COPY", "t", "t", "x"}, api.BadSyntax},
		{0, []string{"COPY", "t", "t", "DB", "x"}, api.BadInt},
		{0, []string{"COPY", "t", "t", "DB", "9", "x"}, api.BadDB},
		{0, []string{"COPY", "t", "t", "DB", "0"}, api.BadSame},
		{0, []string{"COPY", "t", most}, api.BadOOM},
		{0, []string{"MOVE", "t", "x"}, api.BadInt},
		{0, []string{"MOVE", "t", "9"}, api.BadDB},
		{0, []string{"MOVE", "none", "0"}, api.BadSame},
		{0, []string{"SWAPDB", "9", "x"}, api.BadDB},
		{0, []string{"SWAPDB", "x", "9"}, api.BadInt},
		{0, []string{"SCAN", "x", "COUNT", "0"}, api.BadCursor},
		{0, []string{"SCAN", "0", "COUNT", "0", "COUNT"}, api.BadRange},
		{0, []string{"SCAN", "0", "COUNT", "COUNT"}, api.BadInt},
		{0, []string{"SCAN", "0", "TYPE", "x", "COUNT", "0"}, api.BadSyntax},
		{0, []string{"SORT", "t", "LIMIT", "x"}, api.BadSyntax},
		{0, []string{"SORT", "t", "LIMIT", "x", "y", "z"}, api.BadInt},
		{0, []string{"SORT", "t", "z"}, api.BadSyntax},
		{0, []string{"SORT", "t", "STORE", most}, api.BadKind},
		{0, []string{"SORT", "l", "STORE", most}, api.BadInt},
		{0, []string{"SORT", "l", "ALPHA", "STORE", most}, api.BadOOM},
		{0, []string{"MEMORY", "USAGE", "a", "b"}, api.BadSyntax},
		{0, []string{"COMMAND", "GETKEYS", "NOSUCH", "a"}, api.BadName},
		{0, []string{"COMMAND", "COUNT", "NOSUCH"}, api.BadSyntax},
	} {
		before := picture(s)
		line := brief(strings.Join(c.command, " "))
		if got := told(board.Do(s, uint64(i), c.db, args(c.command...))); got != refusal(c.want) {
			t.Errorf("%s: %s, want %s", line, got, refusal(c.want))
		}
		if s.Clock() != uint64(i) {
			t.Errorf("%s: the clock is %d", line, s.Clock())
		}
		if picture(s) != before || len(s.Changed()) != 0 {
			t.Errorf("%s has changed something", line)
		}
	}
}

// TestR11_1_TheClockMovesWhateverIsWrong: what is due goes, and what is told to have changed is that alone.
func TestR11_1_TheClockMovesWhateverIsWrong(t *testing.T) {
	for _, command := range [][]string{nil, {"NOSUCH"}, {"TTL"}, {"EXPIRE", "b", "x"}, {"EXPIRE", "b", "1", "x"}, {"SORT", "b"}, {"SORT", "l"}, {"DEL", wide(5000)}, {"RENAME", "l", wide(4000)}, {"RENAME", "none", "l"}, {"RENAME", "l", "l"}, {"RENAMENX", "l", "b"}, {"COPY", "l", "b"}, {"COPY", "l", "l"}, {"MOVE", "b", "0"}, {"MOVE", "none", "1"}, {"SWAPDB", "1", "2"}, {"SWAPDB", "0", "0"}, {"SWAPDB", "0", "4"}, {"PERSIST", "b"}, {"EXPIRE", "b", "5", "XX"}, {"DEL", "none"}, {"EXISTS", "a"}, {"TYPE", "a"}, {"KEYS", "*"}, {"SCAN", "0"}, {"DBSIZE"}, {"SORT", "l", "BY", "x", "STORE", "l"}, {"SORT", "none", "STORE", "none"}, {"TIME"}, {"MEMORY", "USED"}, {"MEMORY", "x"}, {"COMMAND", "COUNT"}, {"GET", "l"}, {"LLEN", "l"}} {
		s := made(t, 300)
		store(t, s, "a", textOf("y"), 15)
		store(t, s, "b", textOf("x"), 0)
		store(t, s, "l", listOf("v w"), 0)
		board.Do(s, 14, 0, args(command...))
		if s.Clock() != 14 || s.Size(0) != 3 || len(s.Changed()) != 0 {
			t.Errorf("%v at 14: clock %d, %d keys, changed %v", command, s.Clock(), s.Size(0), s.Changed())
		}
		board.Do(s, 15, 0, args(command...))
		if s.Clock() != 15 || s.Size(0) != 2 {
			t.Errorf("%v at 15: clock %d, %d keys", command, s.Clock(), s.Size(0))
		}
		wantChanged(t, s, at(0, "a"))
		board.Do(s, 3, 0, args(command...))
		if s.Clock() != 15 {
			t.Errorf("the clock is %d", s.Clock())
		}
		board.Do(s, 1<<64-1, 0, args(command...))
		if s.Clock() != api.MaxTime {
			t.Errorf("the clock is %d", s.Clock())
		}
	}
}

// TestR8_WhatIsDueIsAbsent: for the command at whose reading it goes, whatever it was.
func TestR8_WhatIsDueIsAbsent(t *testing.T) {
	for _, c := range []row{
		{"DEL k", 0}, {"EXISTS k", 0}, {"TOUCH k k", 0}, {"TYPE k", "none"}, {"EXPIRE k 5", 0}, {"PEXPIRE k 5", 0}, {"EXPIREAT k 5", 0}, {"PEXPIREAT k 500 XX", 0}, {"TTL k", -2}, {"PTTL k", -2}, {"EXPIRETIME k", -2}, {"PEXPIRETIME k", -2}, {"PERSIST k", 0}, {"RENAME k l", api.BadKey}, {"RENAMENX k l", api.BadKey}, {"COPY k l", 0}, {"MOVE k 1", 0}, {"SWAPDB 0 1", "OK"}, {"KEYS *", "[]"}, {"SCAN 0", `["0" []]`}, {"DBSIZE", 0}, {"FLUSHDB", "OK"}, {"FLUSHALL", "OK"}, {"SORT k", "[]"}, {"SORT k STORE k", 0}, {"MEMORY USAGE k", "nil"}, {"MEMORY USED", 0},
	} {
		for _, v := range kinds()[1:] {
			s := made(t, 4000)
			store(t, s, "k", v, 10)
			if got := told(do(s, 10, c.line)); got != c.told() {
				t.Errorf("%s: %s, want %s", c.line, got, c.told())
			}
			wantChanged(t, s, at(0, "k"))
			if picture(s) != "" {
				t.Errorf("behind %s there is %s", c.line, picture(s))
			}
		}
	}
}

// TestP15_5_InsideARun: nothing is done, and the Run goes on.
func TestP15_5_InsideARun(t *testing.T) {
	s, other := made(t, 400), made(t, 400)
	play(t, s, 1, row{"SET a x", "OK"})
	reply, e := s.Run(2, func() api.Reply {
		for _, command := range []string{"DEL a", "RENAME a b", "RENAME none b", "SET a y", "ZADD z 1 a", "NOSUCH", "", "FLUSHALL", "SORT a", "SORT none", "TIME", "EXPIRE a 0", "COPY a a", "COMMAND COUNT"} {
			r := do(s, 99, command)
			if r.Kind != api.ReplyNone || r.Num != 0 || len(r.Text) != 0 || len(r.List) != 0 {
				t.Errorf("%s: %v", command, r)
			}
		}
		if s.Clock() != 2 {
			t.Errorf("the clock is %d", s.Clock())
		}
		// Another space isn't running.
		play(t, other, 7, row{"RPUSH l x", 1}, row{"SORT l", api.BadInt}, row{"RENAME none l", api.BadKey}, row{"RENAME l m", "OK"}, row{"FLUSHALL", "OK"})
		s.Store(0, []byte("b"), textOf("q"))
		return api.Number(3)
	})
	if told(reply) != "3" || e != api.OK {
		t.Errorf("the Run answers %s, %d", told(reply), e)
	}
	wantValue(t, s, "a", textOf("x"))
	wantValue(t, s, "b", textOf("q"))
	play(t, s, 1, row{"DBSIZE", 2})
}

// TestP15_5_Databases: a command sees its own database alone, but where it names another.
func TestP15_5_Databases(t *testing.T) {
	s := made(t, 8000)
	for db := range api.MaxDB {
		name := string(rune('0' + db))
		for _, c := range []row{
			{"DBSIZE", 0}, {"EXISTS k", 0}, {"SET k " + name, "OK"}, {"TYPE k", "string"}, {"EXPIRE k 5" + name, 1}, {"TTL k", "5" + name}, {"PERSIST k", 1}, {"RENAME k n", "OK"}, {"RENAMENX n k", 1}, {"COPY k c", 1}, {"KEYS *", bulks("c k")}, {"DEL c", 1}, {"RPUSH l 2 1", 2}, {"SORT l GET # GET k* STORE m", 4}, {"SCAN 0 TYPE string", `["0" ["k"]]`}, {"MEMORY USAGE k", 30}, {"DBSIZE", 3},
		} {
			if got := told(board.Do(s, 0, db, args(words(c.line)...))); got != c.told() {
				t.Errorf("%s in %d: %s, want %s", c.line, db, got, c.told())
			}
			for _, p := range s.Changed() {
				if p.DB != db {
					t.Errorf("%s in %d has changed %v", c.line, db, p)
				}
			}
		}
	}
	for db := range api.MaxDB {
		wantAt(t, s, at(db, "k"), textOf(string(rune('0'+db))), 0)
	}
}
