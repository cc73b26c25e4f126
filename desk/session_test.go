package desk_test

import (
	"fmt"
	"testing"

	"larder/api"
)

func TestP19_7_PingAndEcho(t *testing.T) {
	d := made(t, 500)
	play(t, d, "0@0 PING => 0: +PONG", "7@0 PING a => 7: \"a\"", "0@0 ECHO PONG => 0: \"PONG\"")
	wantOuts(t, d, 0, [][]byte{[]byte("PING"), {}}, "0: \"\"")
	wantOuts(t, d, 0, [][]byte{[]byte("PING"), nil}, "0: \"\"")
	wantOuts(t, d, 0, [][]byte{[]byte("ECHO"), nil}, "0: \"\"")
	wantOuts(t, d, 0, [][]byte{[]byte("ECHO"), []byte("\x00\xff\r\n")}, fmt.Sprintf("0: %q", "\x00\xff\r\n"))
}

func TestP19_7_Select(t *testing.T) {
	d := made(t, 500)
	for db := range api.MaxDB {
		play(t, d, fmt.Sprintf("0@0 SELECT %d => 0: +OK", db), fmt.Sprintf("0@0 SET k %d => 0: +OK", db))
	}
	// What is refused leaves the database.
	for _, n := range []string{"4", "-1", "9223372036854775807", "-9223372036854775808", "4294967296"} {
		play(t, d, "0@0 SELECT "+n+" => 0: ERR no such database", "0@0 GET k => 0: \"3\"")
	}
	for _, n := range []string{"x", "1.0", "01", "+1", "-0", "9223372036854775808", "0x1", "1a"} {
		play(t, d, "0@0 SELECT "+n+" => 0: ERR not an integer", "0@0 GET k => 0: \"3\"")
	}
	wantOuts(t, d, 0, [][]byte{[]byte("SELECT"), {}}, "0: ERR not an integer")
	wantOuts(t, d, 0, [][]byte{[]byte("SELECT"), []byte(" 1")}, "0: ERR not an integer")
	// Each connection has its own.
	play(t, d, "1@0 GET k => 1: \"0\"", "1@0 SELECT 1 => 1: +OK", "0@0 GET k => 0: \"3\"", "1@0 GET k => 1: \"1\"", "1@0 SELECT 0 => 1: +OK", "1@0 GET k => 1: \"0\"")
	play(t, d, "entries => 1@0 0 SET k 0, 2@0 1 SET k 1, 3@0 2 SET k 2, 4@0 3 SET k 3")
}

func TestP19_7_Quit(t *testing.T) {
	d := made(t, 500)
	play(t, d, "0@0 SET there 1 => 0: +OK", "1@0 SELECT 1 => 1: +OK", "1@0 QUIT => 1: +OK", "1@0 PING =>", "leave 1")
	wantFresh(t, d, 1)
	play(t, d, "1@0 MULTI => 1: +OK", "1@0 SET there 2 => 1: +QUEUED", "1@0 QUIT => 1: +OK", "1@0 EXEC =>", "0@0 GET there => 0: \"1\"")
}

func TestP19_7_Reset(t *testing.T) {
	d := made(t, 500)
	play(t, d, "0@0 SET there 1 => 0: +OK", "1@0 RESET => 1: +RESET")
	wantFresh(t, d, 1)
	play(t, d, "1@0 SELECT 2 => 1: +OK", "1@0 WATCH k => 1: +OK", "1@0 SET k 1 => 1: +OK", "1@0 MULTI => 1: +OK", "1@0 NOPE => 1: ERR unknown command", "1@0 SET k 2 => 1: +QUEUED", "1@0 RESET => 1: +RESET")
	wantFresh(t, d, 1)
	play(t, d, "1@0 SUBSCRIBE a => 1: [\"subscribe\" \"a\" :1]", "1@0 PSUBSCRIBE a* => 1: [\"psubscribe\" \"a*\" :2]", "2@0 SUBSCRIBE a => 2: [\"subscribe\" \"a\" :1]", "1@0 RESET => 1: +RESET", "0@0 PUBLISH a m => 2: [\"message\" \"a\" \"m\"], 0: :1")
	wantFresh(t, d, 1)
	play(t, d, "entries => 1@0 0 SET there 1, 2@0 2 SET k 1")
}

func TestP19_7_MultiAndDiscard(t *testing.T) {
	d := made(t, 500)
	play(t, d, "0@0 DISCARD => 0: ERR DISCARD without MULTI", "0@0 EXEC => 0: ERR EXEC without MULTI", "0@0 MULTI => 0: +OK", "0@0 MULTI => 0: ERR MULTI inside MULTI", "0@0 SET k 1 => 0: +QUEUED", "1@0 GET k => 1: nil", "1@0 EXEC => 1: ERR EXEC without MULTI", "0@0 DISCARD => 0: +OK", "0@0 DISCARD => 0: ERR DISCARD without MULTI", "0@0 GET k => 0: nil",
		"0@0 MULTI => 0: +OK", "0@0 EXEC => 0: []", "0@0 EXEC => 0: ERR EXEC without MULTI", "entries =>")
	// DISCARD forgets the watches, also those that are disturbed.
	play(t, d, "0@0 WATCH k => 0: +OK", "1@0 SET k 1 => 1: +OK", "0@0 MULTI => 0: +OK", "0@0 DISCARD => 0: +OK", "0@0 MULTI => 0: +OK", "0@0 EXEC => 0: []")
	play(t, d, "0@0 WATCH k => 0: +OK", "0@0 MULTI => 0: +OK", "0@0 DISCARD => 0: +OK", "1@0 SET k 2 => 1: +OK", "0@0 MULTI => 0: +OK", "0@0 EXEC => 0: []")
	// A DISCARD that is refused does not.
	play(t, d, "0@0 WATCH k => 0: +OK", "0@0 DISCARD => 0: ERR DISCARD without MULTI", "0@0 EXEC => 0: ERR EXEC without MULTI", "1@0 SET k 3 => 1: +OK", "0@0 MULTI => 0: +OK", "0@0 EXEC => 0: nil array")
}

func TestP19_7_ExecForgetsAllWatches(t *testing.T) {
	for _, c := range []struct{ disturb, spoil, want string }{{"1@0 PING", "0@0 PING", "0: [+PONG]"}, {"1@0 INCR k", "0@0 PING", "0: nil array"}, {"1@0 PING", "0@0 NOPE", "0: EXECABORT"}, {"1@0 INCR k", "0@0 NOPE", "0: EXECABORT"}} {
		d := made(t, 500)
		play(t, d, "0@0 WATCH k => 0: +OK")
		act(d, c.disturb)
		play(t, d, "0@0 MULTI => 0: +OK")
		act(d, c.spoil)
		play(t, d, "0@0 EXEC => "+c.want, "1@0 SET k x => 1: +OK", "0@0 MULTI => 0: +OK", "0@0 EXEC => 0: []")
	}
}

// TestP19_7_WhatDisturbs: of the key k that connection 0 watches.
func TestP19_7_WhatDisturbs(t *testing.T) {
	for _, c := range []struct {
		line     string
		disturbs bool
	}{
		{"1@0 SET k 1", false}, {"1@0 SET k 2", true}, {"0@0 SET k 2", true}, {"1@0 SET k 1 PX 50", true}, {"1@0 PERSIST k", false}, {"1@0 DEL k", true}, {"1@0 DEL j", false}, {"1@0 GET k", false}, {"1@0 SET j 1", false},
		{"1@0 RENAME j k", false}, {"1@0 RENAME j2 k", true}, {"1@0 RENAME k k", false}, {"1@0 RENAME k m", true}, {"1@0 COPY k m", false}, {"1@0 COPY l k", false}, {"1@0 COPY l k REPLACE", true}, {"1@0 MOVE k 1", true}, {"1@0 SWAPDB 0 1", true}, {"1@0 SWAPDB 0 0", false}, {"1@0 SWAPDB 2 1", false},
		{"1@0 FLUSHALL", true}, {"1@0 FLUSHDB", true}, {"1@0 LPUSH k x", false}, {"1@0 INCR k", true}, {"1@0 INCRBY k 0", false}, {"1@0 APPEND k x", true}, {"1@0 EXPIRE k 0", true}, {"1@0 SORT l ALPHA STORE k", true},
		{"tick 1000", false}, {"tick 2000", false}, {"1@9 PING", false},
		{"1@0 NOPE", false}, {"0@0 NOPE", false}, {"0@0 PUBLISH a m", false}, {"0@0 SELECT 1", false}, {"0@0 WATCH k", false}, {"0@0 SAVE", false},
	} {
		d := made(t, 900)
		play(t, d, "0@0 MSET k 1 j 1 j2 2 => 0: +OK", "0@0 RPUSH l a => 0: :1", "0@0 WATCH a k b => 0: +OK")
		act(d, c.line)
		want := "0: [:0]"
		if c.disturbs {
			want = "0: nil array"
		}
		play(t, d, "0@0 MULTI => 0: +OK", "0@0 STRLEN none => 0: +QUEUED")
		if got := act(d, "0@0 EXEC"); got != want {
			t.Errorf("%s: %s", c.line, got)
		}
	}
}

func TestP19_7_WhatTheClockDisturbs(t *testing.T) {
	d := made(t, 900)
	play(t, d, "0@0 SET k 1 PX 10 => 0: +OK", "0@0 SET j 1 PX 20 => 0: +OK", "0@0 WATCH k => 0: +OK", "1@0 WATCH j none => 1: +OK", "2@9 WATCH k => 2: +OK", "tick 10 =>", "3@10 WATCH k => 3: +OK",
		"0@10 MULTI => 0: +OK", "0@10 EXEC => 0: nil array", "1@10 MULTI => 1: +OK", "1@10 EXEC => 1: []", "2@10 MULTI => 2: +OK", "2@10 EXEC => 2: nil array", "3@10 MULTI => 3: +OK", "3@10 EXEC => 3: []")
	// The EXEC's own reading counts, and so does that of another one's command.
	play(t, d, "0@10 WATCH j => 0: +OK", "1@10 WATCH j => 1: +OK", "0@10 MULTI => 0: +OK", "0@10 SET a 1 => 0: +QUEUED", "0@20 EXEC => 0: nil array", "1@20 MULTI => 1: +OK", "1@20 EXEC => 1: nil array", "1@20 GET a => 1: nil")
	// A WATCH that comes with the reading by which a key passes away comes behind that.
	play(t, d, "0@20 SET k 1 PX 5 => 0: +OK", "1@25 WATCH k => 1: +OK", "1@25 MULTI => 1: +OK", "1@25 EXEC => 1: []")
}

func TestP19_7_WatchIsOfAPlace(t *testing.T) {
	d := made(t, 900)
	play(t, d, "0@0 WATCH k => 0: +OK", "1@0 SELECT 1 => 1: +OK", "1@0 SET k 1 => 1: +OK", "0@0 MULTI => 0: +OK", "0@0 EXEC => 0: []")
	play(t, d, "0@0 SELECT 1 => 0: +OK", "0@0 WATCH k => 0: +OK", "0@0 SELECT 0 => 0: +OK", "0@0 WATCH j => 0: +OK", "1@0 SET k 2 => 1: +OK", "0@0 MULTI => 0: +OK", "0@0 EXEC => 0: nil array")
	// There and back again is a change too, and a place that was changed ahead of its WATCH is none.
	play(t, d, "1@0 SET k 1 => 1: +OK", "0@0 SELECT 1 => 0: +OK", "0@0 WATCH k => 0: +OK", "1@0 SET k 2 => 1: +OK", "1@0 SET k 1 => 1: +OK", "0@0 MULTI => 0: +OK", "0@0 EXEC => 0: nil array", "0@0 WATCH k => 0: +OK", "0@0 MULTI => 0: +OK", "0@0 EXEC => 0: []")
	// To watch again does not undo it.
	play(t, d, "0@0 WATCH k => 0: +OK", "1@0 SET k 3 => 1: +OK", "0@0 WATCH k j => 0: +OK", "0@0 MULTI => 0: +OK", "0@0 EXEC => 0: nil array")
	// Each connection watches for itself.
	play(t, d, "0@0 WATCH k => 0: +OK", "2@0 SELECT 1 => 2: +OK", "2@0 WATCH k => 2: +OK", "1@0 SET k 4 => 1: +OK", "0@0 UNWATCH => 0: +OK", "0@0 MULTI => 0: +OK", "0@0 EXEC => 0: []", "2@0 MULTI => 2: +OK", "2@0 EXEC => 2: nil array")
}

func TestP19_7_WhoseverRunDisturbs(t *testing.T) {
	// A pop by which another one is served, a command of an EXEC, and one that was held back.
	d := made(t, 900)
	play(t, d, "0@0 WATCH q => 0: +OK", "1@0 BLPOP q 0 =>", "2@0 RPUSH q e => 2: :1, 1: [\"q\" \"e\"]", "0@0 MULTI => 0: +OK", "0@0 EXEC => 0: nil array")
	play(t, d, "2@0 RPUSH q e => 2: :1", "0@0 WATCH q => 0: +OK", "1@0 BLPOP q 0 => 1: [\"q\" \"e\"]", "0@0 MULTI => 0: +OK", "0@0 EXEC => 0: nil array")
	play(t, d, "0@0 WATCH k => 0: +OK", "1@0 WATCH k => 1: +OK", "1@0 MULTI => 1: +OK", "1@0 SET k 1 => 1: +QUEUED", "1@0 EXEC => 1: [+OK]", "0@0 MULTI => 0: +OK", "0@0 EXEC => 0: nil array")
	play(t, d, "0@0 WATCH k => 0: +OK", "1@0 BLPOP q 5 =>", "1@0 SET k 2 =>", "tick 5 => 1: nil array, 1: +OK", "0@5 MULTI => 0: +OK", "0@5 EXEC => 0: nil array")
	// What was only queued has changed nothing.
	play(t, d, "0@5 WATCH k => 0: +OK", "1@5 MULTI => 1: +OK", "1@5 SET k 9 => 1: +QUEUED", "0@5 MULTI => 0: +OK", "0@5 SET k 8 => 0: +QUEUED", "0@5 EXEC => 0: [+OK]")
}

func TestP19_7_MaxWatch(t *testing.T) {
	d := made(t, 900)
	play(t, d, "0@0 "+list("WATCH", 64, "")+" => 0: +OK", "0@0 WATCH k0 k63 k0 => 0: +OK", "0@0 WATCH one => 0: ERR too many", "0@0 WATCH k0 one => 0: ERR too many", "1@0 SET one 1 => 1: +OK", "0@0 MULTI => 0: +OK", "0@0 EXEC => 0: []")
	play(t, d, "0@0 "+list("WATCH", 65, "")+" => 0: ERR too many", "1@0 SET k0 1 => 1: +OK", "0@0 MULTI => 0: +OK", "0@0 EXEC => 0: []")
	play(t, d, "0@0 "+list("WATCH", 63, "")+" => 0: +OK", "0@0 WATCH a a a => 0: +OK", "0@0 WATCH b => 0: ERR too many", "1@0 SET a 1 => 1: +OK", "0@0 WATCH b => 0: ERR too many", "0@0 MULTI => 0: +OK", "0@0 EXEC => 0: nil array")
	// The same key of another database is another place.
	play(t, d, "0@0 "+list("WATCH", 64, "")+" => 0: +OK", "0@0 SELECT 1 => 0: +OK", "0@0 WATCH k0 => 0: ERR too many", "0@0 UNWATCH => 0: +OK", "0@0 "+list("WATCH", 64, "k1 k2 k3")+" => 0: +OK", "1@0 WATCH k0 => 1: +OK")
	play(t, d, "0@0 RESET => 0: +RESET", "0@0 "+list("WATCH", 64, "k0")+" => 0: +OK", "1@0 SET k63 1 => 1: +OK", "0@0 MULTI => 0: +OK", "0@0 WATCH one => 0: ERR WATCH inside MULTI", "0@0 EXEC => 0: nil array")
}

func TestP19_7_Unwatch(t *testing.T) {
	d := made(t, 900)
	play(t, d, "0@0 UNWATCH => 0: +OK", "0@0 WATCH k => 0: +OK", "0@0 SET k 1 => 0: +OK", "0@0 UNWATCH => 0: +OK", "0@0 MULTI => 0: +OK", "0@0 EXEC => 0: []")
	// Queued it comes too late to help.
	play(t, d, "0@0 WATCH k => 0: +OK", "0@0 SET k 2 => 0: +OK", "0@0 MULTI => 0: +OK", "0@0 UNWATCH => 0: +QUEUED", "0@0 EXEC => 0: nil array", "0@0 MULTI => 0: +OK", "0@0 UNWATCH => 0: +QUEUED", "0@0 EXEC => 0: [+OK]")
}

func TestP19_8_InExec(t *testing.T) {
	d := made(t, 900)
	play(t, d, "0@0 MULTI => 0: +OK", "0@0 PING => 0: +QUEUED", "0@0 PING a => 0: +QUEUED", "0@0 ECHO b => 0: +QUEUED", "0@0 SELECT 9 => 0: +QUEUED", "0@0 SELECT x => 0: +QUEUED", "0@0 SET k 1 => 0: +QUEUED", "0@0 SELECT 2 => 0: +QUEUED", "0@0 GET k => 0: +QUEUED", "0@0 SET k 2 => 0: +QUEUED", "0@0 INCR k => 0: +QUEUED", "0@0 MSET a 1 b => 0: +QUEUED", "0@0 LPUSH k x => 0: +QUEUED", "0@0 PUBSUB NOPE => 0: +QUEUED", "0@0 PUBSUB CHANNELS => 0: +QUEUED", "0@0 KEYS * => 0: +QUEUED",
		"0@3 EXEC => 0: [+PONG \"a\" \"b\" ERR no such database ERR not an integer +OK +OK nil +OK :3 ERR wrong number of arguments WRONGTYPE another kind of value ERR syntax [] [\"k\"]]",
		"entries => 1@3 0 SET k 1; 2 SET k 2; 2 INCR k", "0@3 GET k => 0: \"3\"", "1@3 GET k => 1: \"1\"")
}

func TestP19_8_NothingBetween(t *testing.T) {
	d := made(t, 900)
	play(t, d, "1@0 BLPOP q 0 =>", "1@0 SET k held =>", "2@0 BZPOPMIN z 0 =>", "0@0 MULTI => 0: +OK", "0@0 RPUSH q a => 0: +QUEUED", "0@0 GET k => 0: +QUEUED", "0@0 RPUSH q b => 0: +QUEUED", "0@0 LPOP q => 0: +QUEUED", "0@0 ZADD z 1 m => 0: +QUEUED", "0@0 ZREM z m => 0: +QUEUED", "0@0 GET k => 0: +QUEUED",
		"0@0 EXEC => 0: [:1 nil :2 \"a\" :1 :1 nil], 1: [\"q\" \"b\"], 1: +OK", "entries => 1@0 0 RPUSH q a; 0 RPUSH q b; 0 LPOP q; 0 ZADD z 1 m; 0 ZREM z m, 2@0 0 LPOP q, 3@0 0 SET k held")
}

func TestP19_8_WaitingPops(t *testing.T) {
	d := made(t, 900)
	play(t, d, "0@0 RPUSH l a b c => 0: :3", "0@0 ZADD z 1 m 2 n => 0: :2", "0@0 SET t 1 => 0: +OK", "entries => 1@0 0 RPUSH l a b c, 2@0 0 ZADD z 1 m 2 n, 3@0 0 SET t 1", "0@0 MULTI => 0: +OK")
	for _, line := range []string{"BLPOP q 0", "BRPOP q r 9", "BZPOPMIN q 0", "BZPOPMAX q 0", "BLMOVE q l LEFT LEFT 0", "BLPOP q l 0", "blmove l m right left 5", "BRPOP l 0", "BLPOP l 0", "BZPOPMAX q z 7", "BZPOPMIN z 7", "BLPOP t 0", "BLPOP q x", "BLPOP q -1", "BLMOVE a b UP LEFT 0", "BLMOVE q t LEFT LEFT 0"} {
		play(t, d, "0@0 "+line+" => 0: +QUEUED")
	}
	play(t, d, "0@0 "+list("BLPOP", 65, "0")+" => 0: +QUEUED",
		"0@0 EXEC => 0: [nil array nil array nil array nil array nil [\"l\" \"a\"] \"c\" [\"l\" \"b\"] nil array [\"z\" \"n\" \"2\"] [\"z\" \"m\" \"1\"] WRONGTYPE another kind of value ERR not an integer ERR bad time ERR syntax WRONGTYPE another kind of value ERR too many]",
		"entries => 4@0 0 LPOP l; 0 LMOVE l m right left; 0 RPOP l; 0 ZPOPMAX z; 0 ZPOPMIN z", "0@0 PING => 0: +PONG", "tick 100 =>")
}

func TestP19_8_Messages(t *testing.T) {
	d := made(t, 900)
	play(t, d, "1@0 SUBSCRIBE a => 1: [\"subscribe\" \"a\" :1]", "0@0 MULTI => 0: +OK", "0@0 PUBLISH a x => 0: +QUEUED", "0@0 INCR n => 0: +QUEUED", "0@0 PUBLISH b y => 0: +QUEUED", "0@0 PUBLISH a z => 0: +QUEUED", "0@0 PUBSUB NUMSUB a => 0: +QUEUED",
		"0@0 EXEC => 1: [\"message\" \"a\" \"x\"], 1: [\"message\" \"a\" \"z\"], 0: [:1 :1 :0 :1 [\"a\" :1]]")
}

func TestP19_8_Oom(t *testing.T) {
	d := made(t, 256)
	play(t, d, "0@0 MULTI => 0: +OK", "0@0 SET a 1 => 0: +QUEUED", "0@0 SET b "+long(2000)+" => 0: +QUEUED", "0@0 SET c 2 => 0: +QUEUED", "0@0 EXEC => 0: [+OK OOM +OK]", "0@0 MGET a b c => 0: [\"1\" nil \"2\"]", "entries => 1@0 0 SET a 1; 0 SET c 2")
}
