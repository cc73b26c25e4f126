package order_test

import (
	"strings"
	"testing"

	"larder/api"
	"larder/order"
)

// TestP14_2_TheOrderOfErrors: where several things are wrong, the earlier step of R11 decides.
func TestP14_2_TheOrderOfErrors(t *testing.T) {
	s := made(t, 256)
	store(t, s, "t", others(api.ValNone)[0], 0)
	store(t, s, "m", rankOf(greatest+" x"), 0)
	long := wide(api.MaxText + 1)
	none := func(n int) []string { return make([]string, n) }
	for i, c := range []struct {
		db      int
		command []string
		want    api.Errno
	}{
		{9, nil, api.BadMany},
		{-1, append(none(128), long), api.BadMany},
		{4, []string{"NOSUCH", long}, api.BadLong},
		{4, []string{long}, api.BadLong},
		{4, []string{"ZCARD", "a", "b"}, api.BadDB},
		{-1, []string{"NOSUCH"}, api.BadDB},
		{1 << 40, []string{"ZCARD", "a"}, api.BadDB},
		{3, []string{"NOSUCH"}, api.BadName},
		{0, none(128), api.BadName},
		{0, []string{"ZADD", "t", "x"}, api.BadArity},
		{0, []string{"ZADD", "t", "x", "a"}, api.BadInt},
		{0, []string{"ZADD", "t", "NX", "XX"}, api.BadSyntax},
		{0, []string{"ZADD", "t", "1", "a", "x"}, api.BadInt},
		{0, []string{"ZADD", "t", "1", "a", "2"}, api.BadSyntax},
		{0, []string{"ZADD", "t", "1", wide(api.MaxText)}, api.BadKind},
		{0, []string{"ZADD", "a", "1", wide(api.MaxText)}, api.BadOOM},
		{0, []string{"ZADD", "m", "INCR", "1", wide(api.MaxText)}, api.BadOOM},
		{0, []string{"ZADD", "m", "INCR", "1", "x"}, api.BadOver},
		{0, []string{"ZADD", "t", "INCR", "1", "x"}, api.BadKind},
		{0, []string{"ZINCRBY", "t", "x", "a"}, api.BadInt},
		{0, []string{"ZINCRBY", "t", "1", "a"}, api.BadKind},
		{0, []string{"ZINCRBY", "m", "1", "x"}, api.BadOver},
		{0, []string{"ZINCRBY", "a", "1", wide(api.MaxText)}, api.BadOOM},
		{0, []string{"ZRANGE", "t", "x", "y", "z"}, api.BadSyntax},
		{0, []string{"ZRANGE", "t", "x", "y"}, api.BadInt},
		{0, []string{"ZRANGE", "t", "x", "y", "BYLEX"}, api.BadBound},
		{0, []string{"ZRANGE", "t", "0", "1"}, api.BadKind},
		{0, []string{"ZCOUNT", "t", "x", "y", "z"}, api.BadArity},
		{0, []string{"ZCOUNT", "t", "x", "y"}, api.BadBound},
		{0, []string{"ZCOUNT", "t", "1", "2"}, api.BadKind},
		{0, []string{"ZRANGESTORE", wide(api.MaxText), "t", "0", "1"}, api.BadKind},
		{0, []string{"ZRANGESTORE", wide(api.MaxText), "t", "x", "1"}, api.BadInt},
		{0, []string{"ZRANGESTORE", wide(api.MaxText), "m", "0", "1"}, api.BadOOM},
		{0, []string{"ZREMRANGEBYRANK", "t", "x", "1"}, api.BadInt},
		{0, []string{"ZREMRANGEBYRANK", "t", "0", "1"}, api.BadKind},
		{0, []string{"ZPOPMIN", "t", "x", "y"}, api.BadInt},
		{0, []string{"ZPOPMIN", "t", "-1", "y"}, api.BadRange},
		{0, []string{"ZPOPMIN", "t", "1", "y"}, api.BadSyntax},
		{0, []string{"ZPOPMIN", "t", "0"}, api.BadKind},
		{0, []string{"ZMPOP", "x", "t", "UP"}, api.BadInt},
		{0, []string{"ZMPOP", "0", "t", "UP"}, api.BadRange},
		{0, []string{"ZMPOP", "1", "t", "UP"}, api.BadSyntax},
		{0, []string{"ZMPOP", "1", "t", "MIN", "COUNT", "0"}, api.BadRange},
		{0, []string{"ZMPOP", "1", "t", "MIN"}, api.BadKind},
		{0, []string{"ZUNION", "1", "t", "WEIGHTS", "x", "y"}, api.BadInt},
		{0, []string{"ZUNION", "1", "t", "WEIGHTS", "1", "y"}, api.BadSyntax},
		{0, []string{"ZUNION", "3", "m", "m", "t"}, api.BadKind},
		{0, []string{"ZUNION", "2", "m", "m"}, api.BadOver},
		{0, []string{"ZUNIONSTORE", wide(api.MaxText), "2", "m", "m"}, api.BadOver},
		{0, []string{"ZUNIONSTORE", wide(api.MaxText), "3", "m", "m", "t"}, api.BadKind},
		{0, []string{"ZUNIONSTORE", wide(api.MaxText), "1", "m"}, api.BadOOM},
		{0, []string{"ZINTERCARD", "1", "t", "LIMIT", "x", "y"}, api.BadInt},
		{0, []string{"ZINTERCARD", "1", "t", "LIMIT", "-1", "y"}, api.BadRange},
		{0, []string{"ZINTERCARD", "1", "t", "LIMIT", "1", "y"}, api.BadSyntax},
		{0, []string{"ZINTERCARD", "1", "t", "LIMIT", "1"}, api.BadKind},
		{0, []string{"ZSCAN", "t", "x", "y"}, api.BadCursor},
		{0, []string{"ZSCAN", "t", "0", "y", "z"}, api.BadSyntax},
		{0, []string{"ZSCAN", "t", "0", "COUNT", "0"}, api.BadRange},
		{0, []string{"ZSCAN", "t", "0", "COUNT", "1"}, api.BadKind},
	} {
		before := picture(s)
		line := brief(strings.Join(c.command, " "))
		if got := told(order.Do(s, uint64(i), c.db, args(c.command...))); got != refusal(c.want) {
			t.Errorf("%s: %s, want %s", line, got, refusal(c.want))
		}
		if s.Clock() != uint64(i) {
			t.Errorf("%s: the clock is %d", line, s.Clock())
		}
		if picture(s) != before || len(s.Changed()) != 0 {
			t.Errorf("%s has changed something", line)
		}
	}
}

// TestP14_2_TheClockMovesWhateverIsWrong: what is due goes, and what is told to have changed is that alone.
func TestP14_2_TheClockMovesWhateverIsWrong(t *testing.T) {
	for _, command := range [][]string{nil, {"NOSUCH"}, {"ZCARD"}, {"ZADD", "b", "x", "y"}, {"ZPOPMIN", "b", "x"}, {"ZCARD", "s"}, {"ZCARD", wide(5000)}, {"ZADD", "b", "1", wide(4000)}, {"ZADD", "b", "1", "x"}, {"ZADD", "b", "NX", "7", "x"}, {"ZADD", "new", "XX", "7", "x"}, {"ZREM", "b", "v"}, {"ZRANGE", "b", "0", "-1"}, {"ZRANGESTORE", "b", "b", "0", "-1"}, {"ZUNIONSTORE", "b", "1", "b"}, {"ZINTERSTORE", "c", "2", "a", "a"}, {"ZINCRBY", "b", "0", "x"}, {"ZPOPMAX", "b", "0"}, {"ZREMRANGEBYRANK", "b", "5", "6"}, {"ZADD", "b", "9", "x", "1", "x"}, {"ZINCRBY", "b", greatest, "x"}} {
		s := made(t, 400)
		store(t, s, "a", rankOf("1 y"), 15)
		store(t, s, "b", rankOf("1 x 2 z"), 0)
		order.Do(s, 14, 0, args(command...))
		if s.Clock() != 14 || s.Size(0) != 2 || len(s.Changed()) != 0 {
			t.Errorf("%v at 14: clock %d, %d keys, changed %v", command, s.Clock(), s.Size(0), s.Changed())
		}
		order.Do(s, 15, 0, args(command...))
		if s.Clock() != 15 || s.Size(0) != 1 {
			t.Errorf("%v at 15: clock %d, %d keys", command, s.Clock(), s.Size(0))
		}
		wantChanged(t, s, "a")
		order.Do(s, 3, 0, args(command...))
		if s.Clock() != 15 {
			t.Errorf("the clock is %d", s.Clock())
		}
		order.Do(s, 1<<64-1, 0, args(command...))
		if s.Clock() != api.MaxTime {
			t.Errorf("the clock is %d", s.Clock())
		}
	}
}

// TestR8_WhatIsDueIsAbsent: for the command at whose reading it goes, be it of the kind that is wanted or not.
func TestR8_WhatIsDueIsAbsent(t *testing.T) {
	for _, c := range []row{
		{"ZCARD k", 0}, {"ZSCORE k a", "nil"}, {"ZMSCORE k a", "[nil]"}, {"ZREM k a", 0}, {"ZRANK k a", "nil"}, {"ZREVRANK k a WITHSCORE", "nil array"}, {"ZCOUNT k -inf inf", 0}, {"ZLEXCOUNT k - +", 0}, {"ZRANGE k 0 -1", "[]"}, {"ZREVRANGE k 0 -1", "[]"}, {"ZRANGEBYSCORE k -inf inf", "[]"}, {"ZREVRANGEBYSCORE k inf -inf", "[]"}, {"ZRANGEBYLEX k - +", "[]"}, {"ZREVRANGEBYLEX k + -", "[]"}, {"ZRANGESTORE n k 0 -1", 0}, {"ZRANGESTORE k k 0 -1", 0}, {"ZREMRANGEBYRANK k 0 -1", 0}, {"ZREMRANGEBYSCORE k -inf inf", 0}, {"ZREMRANGEBYLEX k - +", 0},
		{"ZPOPMIN k", "[]"}, {"ZPOPMAX k 5", "[]"}, {"ZMPOP 1 k MIN", "nil array"}, {"ZUNION 1 k", "[]"}, {"ZINTER 2 k k", "[]"}, {"ZDIFF 1 k", "[]"}, {"ZINTERCARD 1 k", 0}, {"ZUNIONSTORE n 1 k", 0}, {"ZINTERSTORE k 1 k", 0}, {"ZDIFFSTORE k 1 k", 0}, {"ZSCAN k 0", `["0" []]`},
		{"ZADD k 7 b", 1}, {"ZADD k NX 7 a", 1}, {"ZADD k XX 7 a", 0}, {"ZADD k INCR 7 a", `"7"`}, {"ZINCRBY k 7 a", `"7"`},
	} {
		for _, v := range []api.Value{rankOf("5 a"), setOf("a"), others(api.ValNone)[0]} {
			s := made(t, 4000)
			store(t, s, "k", v, 10)
			if got := told(do(s, 10, c.line)); got != c.told() {
				t.Errorf("%s: %s, want %s", c.line, got, c.told())
			}
			wantChanged(t, s, "k")
			if s.Size(0) > 0 {
				wantDeadline(t, s, "k", 0)
			}
		}
	}
}

// TestP14_2_InsideARun: nothing is done, and the Run goes on.
func TestP14_2_InsideARun(t *testing.T) {
	s, other := made(t, 400), made(t, 400)
	play(t, s, 1, row{"ZADD a 1 x", 1})
	reply, e := s.Run(2, func() api.Reply {
		for _, command := range []string{"ZADD a 2 y", "ZINCRBY a 1 x", "ZCARD a", "ZPOPMIN a", "NOSUCH", "ZPOPMIN a -1", "ZUNIONSTORE b 1 a", ""} {
			r := do(s, 99, command)
			if r.Kind != api.ReplyNone || r.Num != 0 || len(r.Text) != 0 || len(r.List) != 0 {
				t.Errorf("%s: %v", command, r)
			}
		}
		if s.Clock() != 2 {
			t.Errorf("the clock is %d", s.Clock())
		}
		// Another space isn't running.
		play(t, other, 7, row{"ZADD a 5 x", 1}, row{"ZPOPMIN a x", api.BadInt}, row{"ZPOPMIN a", bulks("x 5")})
		s.Store(0, []byte("b"), rankOf("3 q"))
		return api.Number(3)
	})
	if told(reply) != "3" || e != api.OK {
		t.Errorf("the Run answers %s, %d", told(reply), e)
	}
	wantValue(t, s, "a", rankOf("1 x"))
	wantValue(t, s, "b", rankOf("3 q"))
	play(t, s, 1, row{"ZCARD a", 1})
}

// TestP14_2_Databases: a command sees its own database alone.
func TestP14_2_Databases(t *testing.T) {
	s := made(t, 8000)
	for db := range api.MaxDB {
		name := string(rune('0' + db))
		for _, c := range []row{
			{"ZCARD z", 0}, {"ZADD z 1 a 2 b " + name + " x", 3}, {"ZSCORE z x", `"` + name + `"`}, {"ZINCRBY z 4 x", `"` + string(rune('4'+db)) + `"`}, {"ZRANGE z 0 -1", bulks("a b x")}, {"ZRANGESTORE y z 0 0", 1}, {"ZUNIONSTORE u 2 z y", 3}, {"ZDIFF 2 u y", bulks("b x")}, {"ZINTERCARD 2 z y", 1}, {"ZPOPMIN y", bulks("a 1")}, {"ZMPOP 2 y z MIN", `["z" [["a" "1"]]]`}, {"ZCARD u", 3}, {"ZREMRANGEBYRANK u 0 1", 2},
		} {
			if got := told(order.Do(s, 0, db, args(words(c.line)...))); got != c.told() {
				t.Errorf("%s in %d: %s, want %s", c.line, db, got, c.told())
			}
			for _, p := range s.Changed() {
				if p.DB != db {
					t.Errorf("%s in %d has changed %v", c.line, db, p)
				}
			}
		}
	}
}

// TestP14_2_Kinds: every key that is named must have a ranked set, or nothing; sets are taken only where several keys are combined.
func TestP14_2_Kinds(t *testing.T) {
	for _, v := range others(api.ValRank) {
		s := made(t, 4000)
		store(t, s, "t", v, 50)
		store(t, s, "z", rankOf("1 a 2 x"), 0)
		for _, line := range []string{
			"ZADD t 1 x", "ZADD t XX 1 a", "ZADD t NX 1 x", "ZADD t INCR 1 x", "ZINCRBY t 1 x", "ZCARD t", "ZSCORE t x", "ZMSCORE t x a", "ZREM t x", "ZREM t a", "ZRANK t x", "ZRANK t x WITHSCORE", "ZREVRANK t a",
			"ZCOUNT t -inf inf", "ZLEXCOUNT t - +", "ZRANGE t 0 -1", "ZRANGE t 5 9", "ZRANGE t 1 2 BYSCORE", "ZRANGE t - + BYLEX REV", "ZREVRANGE t 0 -1", "ZRANGEBYSCORE t 1 2", "ZREVRANGEBYSCORE t 2 1", "ZRANGEBYLEX t - +", "ZREVRANGEBYLEX t + -", "ZRANGESTORE z t 0 -1", "ZRANGESTORE t t 0 -1", "ZRANGESTORE none t 5 6", "ZREMRANGEBYRANK t 0 -1", "ZREMRANGEBYSCORE t 5 6", "ZREMRANGEBYLEX t - +",
			"ZPOPMIN t", "ZPOPMAX t 0", "ZMPOP 1 t MIN", "ZMPOP 2 z t MAX", "ZMPOP 2 none t MIN", "ZSCAN t 0", "ZSCAN t 0 MATCH *",
		} {
			play(t, s, 0, row{line, api.BadKind})
			wantChanged(t, s)
		}
	}
}

// TestP14_2_Deadlines: a key that is changed keeps its own, one that is made or laid anew has none.
func TestP14_2_Deadlines(t *testing.T) {
	for _, line := range []string{"ZADD k 1 a", "ZADD k 5 b", "ZADD k 9 a", "ZADD k INCR 2 a", "ZINCRBY k 1 x", "ZREM k a", "ZREM k x", "ZPOPMIN k", "ZPOPMAX k", "ZMPOP 1 k MIN", "ZREMRANGEBYRANK k 0 0", "ZREMRANGEBYSCORE k 2 2", "ZREMRANGEBYLEX k [a [a", "ZRANGE k 0 -1", "ZSCAN k 0", "ZUNION 1 k", "ZRANGESTORE m k 0 -1", "ZUNIONSTORE m 1 k"} {
		s := made(t, 4000)
		store(t, s, "k", rankOf("1 a 2 b"), 40)
		do(s, 0, line)
		wantDeadline(t, s, "k", 40)
	}
	for _, line := range []string{"ZRANGESTORE k k 0 -1", "ZUNIONSTORE k 1 k", "ZINTERSTORE k 2 k k AGGREGATE MIN", "ZDIFFSTORE k 1 k"} {
		s := made(t, 4000)
		store(t, s, "k", rankOf("1 a 2 b"), 40)
		play(t, s, 0, row{line, 2})
		wantValue(t, s, "k", rankOf("1 a 2 b"))
		wantDeadline(t, s, "k", 0)
		wantChanged(t, s, "k")
		// Once more it differs in nothing.
		play(t, s, 0, row{line, 2})
		wantChanged(t, s)
	}
	s := made(t, 4000)
	store(t, s, "k", rankOf("1 a 2 b"), 40)
	play(t, s, 0, row{"ZPOPMIN k 2", bulks("a 1 b 2")}, row{"ZADD k 1 a", 1})
	wantDeadline(t, s, "k", 0)
}
