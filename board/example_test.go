package board_test

import (
	"testing"

	"larder/api"
	"larder/board"
)

// TestExamples: the chapter's, each number in a space of its own.
func TestExamples(t *testing.T) {
	s := made(t, 4000)
	play(t, s, 1000,
		row{"SET a 1", "OK"}, row{"RPUSH l x y", 2}, row{"EXISTS a l a none", 3}, row{"TYPE l", "list"}, row{"TYPE none", "none"}, row{"DEL a a none", 1}, row{"TOUCH l", 1}, row{"DBSIZE", 1},
		row{"EXPIRE l 5", 1}, row{"TTL l", 5}, row{"PTTL l", 5000}, row{"PEXPIRETIME l", 6000}, row{"EXPIRETIME l", 6})
	play(t, s, 1001,
		row{"TTL l", 5}, row{"PTTL l", 4999}, row{"PEXPIRE l 4000 GT", 0}, row{"PEXPIRE l 4000 LT", 1}, row{"EXPIRE l 1 NX", 0}, row{"EXPIRE l 1 NX XX", api.BadSyntax}, row{"EXPIRE l 1 XX GT", 0}, row{"EXPIRE l x Q", api.BadInt}, row{"EXPIRE l 9223372036854775807", api.BadTime}, row{"PERSIST l", 1}, row{"PERSIST l", 0}, row{"TTL l", -1}, row{"EXPIRE l 1 GT", 0}, row{"EXPIRE l -1", 1}, row{"TTL l", -2})
	wantGone(t, s, "l")

	s = made(t, 4000)
	play(t, s, 1000,
		row{"SET a 1 PX 500", "OK"}, row{"SET b 2", "OK"}, row{"RENAME a b", "OK"}, row{"GET b", `"1"`}, row{"PTTL b", 500}, row{"RENAME none x", api.BadKey}, row{"RENAMENX b b", 0}, row{"RENAMENX b c", 1}, row{"COPY c d", 1}, row{"PTTL d", 500}, row{"COPY c d", 0}, row{"COPY c d REPLACE", 1}, row{"COPY c c", api.BadSame}, row{"COPY c c DB 1", 1}, row{"COPY c d DB 4", api.BadDB}, row{"COPY c d DB", api.BadSyntax}, row{"MOVE c 0", api.BadSame}, row{"MOVE c 1", 0}, row{"MOVE d 2", 1}, row{"MOVE d x", api.BadInt})

	s = made(t, 4000)
	inHashOrder := byHash(seed, []string{"ab", "ac"})
	play(t, s, 1000,
		row{"MSET ab 1 ac 2 b 3", "OK"}, row{"KEYS a*", bulks("ab ac")}, row{"KEYS [", "[]"}, row{"SCAN 0 COUNT 100 MATCH a*", `["0" ` + quoted(inHashOrder) + "]"}, row{"SCAN 0 TYPE list", `["0" []]`}, row{"SCAN 0 TYPE none", api.BadSyntax}, row{"SCAN -1", api.BadCursor}, row{"SCAN 0 COUNT 0", api.BadRange}, row{"SCAN 0 COUNT 1 COUNT 1", api.BadSyntax})

	s = made(t, 4000)
	play(t, s, 1000,
		row{"RPUSH n 10 9 2 2 -1", 5}, row{"SORT n", bulks("-1 2 2 9 10")}, row{"SORT n DESC LIMIT 0 2", bulks("10 9")}, row{"SORT n ALPHA", bulks("-1 10 2 2 9")}, row{"SORT n BY nosort DESC", bulks("-1 2 2 9 10")}, row{"SORT n LIMIT 1 -1 STORE m", 4}, row{"LRANGE m 0 -1", bulks("2 2 9 10")}, row{"SORT none STORE m", 0}, row{"EXISTS m", 0}, row{"SORT n BY", api.BadSyntax}, row{"SORT n ASC DESC", api.BadSyntax},
		row{"RPUSH u x y z", 3}, row{"MSET w_x 3 w_y 1", "OK"}, row{"HSET h_x f Q", 1}, row{"SORT u BY w_*", bulks("z y x")}, row{"SORT u BY w_* GET # GET w_* GET h_*->f", `["z" nil nil "y" "1" nil "x" "3" "Q"]`}, row{"SORT u", api.BadInt}, row{"SORT u BY h_*->f", api.BadInt}, row{"SORT u BY h_*->f ALPHA", bulks("y z x")})

	s = made(t, 4000)
	play(t, s, 1234,
		row{"TIME", bulks("1 234000")}, row{"SET a 1", "OK"}, row{"MEMORY USAGE a", 30}, row{"MEMORY USED", 30}, row{"MEMORY USAGE", api.BadSyntax}, row{"MEMORY FREE", api.BadSyntax}, row{"COMMAND GETKEYS mset a 1 b 2", bulks("a b")}, row{"COMMAND GETKEYS lmpop 2 a b LEFT", bulks("a b")}, row{"COMMAND GETKEYS lmpop 9 a b LEFT", api.BadSyntax}, row{"COMMAND GETKEYS TIME", api.BadSyntax}, row{"COMMAND GETKEYS GET", api.BadArity}, row{"COMMAND GETKEYS NOSUCH", api.BadName})

	for _, c := range []struct {
		command [][]byte
		want    api.Errno
	}{
		{args("GET"), api.ErrBoardArity}, {nil, api.ErrBoardName}, {args("NOSUCH", "x"), api.ErrBoardName}, {args("get", "x"), api.OK},
	} {
		if got := board.Check(c.command); got != c.want {
			t.Errorf("Check(%q): %d, want %d", c.command, got, c.want)
		}
	}
	if keys, e := board.Keys(args("memory", "used")); len(keys) != 0 || e != api.ErrBoardKeys {
		t.Errorf("Keys: %q, %d", keys, e)
	}

	s = made(t, 4000)
	play(t, s, 1000,
		row{"@1 SET x 1", "OK"}, row{"SET y 2", "OK"}, row{"SWAPDB 0 1", "OK"}, row{"KEYS *", bulks("x")}, row{"@1 KEYS *", bulks("y")}, row{"SWAPDB 0 4", api.BadDB}, row{"@1 FLUSHDB", "OK"}, row{"@1 DBSIZE", 0}, row{"DBSIZE", 1}, row{"FLUSHALL", "OK"}, row{"MEMORY USED", 0})
}
