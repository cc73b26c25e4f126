package nest_test

import (
	"strings"
	"testing"

	"larder/api"
	"larder/nest"
)

// TestP13_2_TheOrderOfErrors: where several things are wrong, the earlier step of R11 decides.
func TestP13_2_TheOrderOfErrors(t *testing.T) {
	s := made(t, 256)
	store(t, s, "t", others(api.ValNone)[0], 0)
	store(t, s, "h", hashOf("x y n 9223372036854775807"), 0)
	long := wide(api.MaxText + 1)
	none := func(n int) []string { return make([]string, n) }
	for i, c := range []struct {
		db      int
		command []string
		want    api.Errno
	}{
		{9, nil, api.BadMany},
		{-1, append(none(128), long), api.BadMany},
		{4, []string{"NOSUCH", long}, api.BadLong},
		{4, []string{long}, api.BadLong},
		{4, []string{"HLEN", "a", "b"}, api.BadDB},
		{-1, []string{"NOSUCH"}, api.BadDB},
		{1 << 40, []string{"HLEN", "a"}, api.BadDB},
		{3, []string{"NOSUCH"}, api.BadName},
		{0, none(128), api.BadName},
		{0, []string{"HSET", "t", "x"}, api.BadArity},
		{0, []string{"HSET", "t", "x", "y", "z"}, api.BadArity},
		{0, []string{"HSET", "t", "x", "y"}, api.BadKind},
		{0, []string{"HINCRBY", "t", "x"}, api.BadArity},
		{0, []string{"HINCRBY", "t", "x", "y"}, api.BadInt},
		{0, []string{"HINCRBY", "t", "x", "1"}, api.BadKind},
		{0, []string{"HINCRBY", "h", "x", "1"}, api.BadInt},
		{0, []string{"HINCRBY", "h", "n", "1"}, api.BadOver},
		{0, []string{"HINCRBY", "h", wide(api.MaxText), "1"}, api.BadOOM},
		{0, []string{"HSETNX", "t", "x", wide(api.MaxText)}, api.BadKind},
		{0, []string{"HSETNX", "h", "z", wide(api.MaxText)}, api.BadOOM},
		{0, []string{"HSET", "t", "z", wide(api.MaxText)}, api.BadKind},
		{0, []string{"HSET", "a", "z", wide(api.MaxText)}, api.BadOOM},
		{0, []string{"HSCAN", "t", "x", "y"}, api.BadCursor},
		{0, []string{"HSCAN", "t", "0", "y", "z"}, api.BadSyntax},
		{0, []string{"HSCAN", "t", "0", "COUNT", "0"}, api.BadRange},
		{0, []string{"HSCAN", "t", "0", "COUNT", "1"}, api.BadKind},
		{0, []string{"SPOP", "t", "x", "y"}, api.BadInt},
		{0, []string{"SPOP", "t", "-1", "y"}, api.BadRange},
		{0, []string{"SPOP", "t", "1", "y"}, api.BadSyntax},
		{0, []string{"SPOP", "t", "0"}, api.BadKind},
		{0, []string{"SINTERCARD", "x", "t", "UP"}, api.BadInt},
		{0, []string{"SINTERCARD", "0", "t", "UP"}, api.BadRange},
		{0, []string{"SINTERCARD", "1", "t", "UP"}, api.BadSyntax},
		{0, []string{"SINTERCARD", "1", "t", "LIMIT", "x", "y"}, api.BadInt},
		{0, []string{"SINTERCARD", "1", "t", "LIMIT", "-1", "y"}, api.BadRange},
		{0, []string{"SINTERCARD", "1", "t", "LIMIT", "1", "y"}, api.BadSyntax},
		{0, []string{"SINTERCARD", "1", "t", "LIMIT", "1"}, api.BadKind},
		{0, []string{"SMOVE", "a", "t", "x"}, api.BadKind},
		{0, []string{"SMOVE", "t", "t", "x"}, api.BadKind},
		{0, []string{"SUNIONSTORE", wide(api.MaxText), "t"}, api.BadKind},
		{0, []string{"SADD", "t", wide(api.MaxText)}, api.BadKind},
		{0, []string{"SADD", "a", wide(api.MaxText)}, api.BadOOM},
	} {
		before := picture(s)
		line := brief(strings.Join(c.command, " "))
		if got := told(nest.Do(s, uint64(i), c.db, args(c.command...))); got != refusal(c.want) {
			t.Errorf("%s: %s, want %s", line, got, refusal(c.want))
		}
		if s.Clock() != uint64(i) {
			t.Errorf("%s: the clock is %d", line, s.Clock())
		}
		if picture(s) != before || len(s.Changed()) != 0 {
			t.Errorf("%s has changed something", line)
		}
	}
}

// TestP13_2_TheClockMovesWhateverIsWrong: what is due goes, and what is told to have changed is that alone.
func TestP13_2_TheClockMovesWhateverIsWrong(t *testing.T) {
	for _, command := range [][]string{nil, {"NOSUCH"}, {"HLEN"}, {"HSET", "b", "x"}, {"SPOP", "b", "x"}, {"HGET", "b", "x"}, {"HLEN", wide(5000)}, {"SADD", "b", wide(4000)}, {"SADD", "b", "x"}, {"SREM", "b", "v"}, {"SMOVE", "b", "b", "x"}, {"SMEMBERS", "b"}, {"SUNIONSTORE", "b", "b"}, {"SINTERSTORE", "c", "a", "a"}} {
		s := made(t, 256)
		store(t, s, "a", hashOf("x y"), 15)
		store(t, s, "b", setOf("x z"), 0)
		nest.Do(s, 14, 0, args(command...))
		if s.Clock() != 14 || s.Size(0) != 2 || len(s.Changed()) != 0 {
			t.Errorf("%v at 14: clock %d, %d keys, changed %v", command, s.Clock(), s.Size(0), s.Changed())
		}
		nest.Do(s, 15, 0, args(command...))
		if s.Clock() != 15 || s.Size(0) != 1 {
			t.Errorf("%v at 15: clock %d, %d keys", command, s.Clock(), s.Size(0))
		}
		wantChanged(t, s, "a")
		nest.Do(s, 3, 0, args(command...))
		if s.Clock() != 15 {
			t.Errorf("the clock is %d", s.Clock())
		}
		nest.Do(s, 1<<64-1, 0, args(command...))
		if s.Clock() != api.MaxTime {
			t.Errorf("the clock is %d", s.Clock())
		}
	}
}

// TestR8_WhatIsDueIsAbsent: for the command at whose reading it goes, be it of the kind that is wanted or not.
func TestR8_WhatIsDueIsAbsent(t *testing.T) {
	for _, c := range []row{
		{"HLEN k", 0}, {"HGET k a", "nil"}, {"HGETALL k", "[]"}, {"HKEYS k", "[]"}, {"HVALS k", "[]"}, {"HMGET k a", "[nil]"}, {"HEXISTS k a", 0}, {"HSTRLEN k a", 0}, {"HDEL k a", 0}, {"HSCAN k 0", `["0" []]`}, {"HSET k b 1", 1}, {"HSETNX k a 1", 1}, {"HINCRBY k a 1", 1},
		{"SCARD k", 0}, {"SMEMBERS k", "[]"}, {"SISMEMBER k a", 0}, {"SMISMEMBER k a", "[0]"}, {"SREM k a", 0}, {"SPOP k", "nil"}, {"SPOP k 1", "[]"}, {"SSCAN k 0", `["0" []]`}, {"SMOVE k k a", 0}, {"SMOVE k n a", 0}, {"SUNION k", "[]"}, {"SINTER k k", "[]"}, {"SDIFF k", "[]"}, {"SINTERCARD 1 k", 0}, {"SUNIONSTORE n k", 0}, {"SINTERSTORE k k", 0}, {"SDIFFSTORE k k", 0}, {"SADD k b", 1},
	} {
		for _, v := range []api.Value{hashOf("a 5"), setOf("a"), others(api.ValNone)[0]} {
			s := made(t, 4000)
			store(t, s, "k", v, 10)
			if got := told(do(s, 10, c.line)); got != c.told() {
				t.Errorf("%s: %s, want %s", c.line, got, c.told())
			}
			wantChanged(t, s, "k")
			if s.Size(0) > 0 {
				wantDeadline(t, s, "k", 0)
			}
		}
	}
}

// TestP13_2_InsideARun: nothing is done, and the Run goes on.
func TestP13_2_InsideARun(t *testing.T) {
	s, other := made(t, 400), made(t, 400)
	play(t, s, 1, row{"SADD a 1", 1})
	reply, e := s.Run(2, func() api.Reply {
		for _, command := range []string{"SADD a 2", "HSET h a 1", "SCARD a", "SPOP a", "NOSUCH", "SPOP a -1", "SUNIONSTORE b a", ""} {
			r := do(s, 99, command)
			if r.Kind != api.ReplyNone || r.Num != 0 || len(r.Text) != 0 || len(r.List) != 0 {
				t.Errorf("%s: %v", command, r)
			}
		}
		if s.Clock() != 2 {
			t.Errorf("the clock is %d", s.Clock())
		}
		// Another space isn't running.
		play(t, other, 7, row{"SADD a 5", 1}, row{"SPOP a x", api.BadInt}, row{"SPOP a", `"5"`})
		s.Store(0, []byte("b"), setOf("x"))
		return api.Number(3)
	})
	if told(reply) != "3" || e != api.OK {
		t.Errorf("the Run answers %s, %d", told(reply), e)
	}
	wantValue(t, s, "a", setOf("1"))
	wantValue(t, s, "b", setOf("x"))
	play(t, s, 1, row{"SCARD a", 1})
}

// TestP13_2_Databases: a command sees its own database alone.
func TestP13_2_Databases(t *testing.T) {
	s := made(t, 4000)
	for db := range api.MaxDB {
		name := string(rune('0' + db))
		for _, c := range []row{
			{"HLEN h", 0}, {"HSET h a " + name, 1}, {"HGETALL h", bulks("a " + name)}, {"HINCRBY h b " + name, name}, {"HDEL h a", 1}, {"HSCAN h 0", `["0" ["b" "` + name + `"]]`},
			{"SCARD s", 0}, {"SADD s a b " + name, 3}, {"SMOVE s m " + name, 1}, {"SUNION s m", bulks(name + " a b")}, {"SDIFFSTORE d s m", 2}, {"SINTERCARD 2 s d", 2}, {"SPOP m", `"` + name + `"`}, {"SMEMBERS d", bulks("a b")},
		} {
			if got := told(nest.Do(s, 0, db, args(words(c.line)...))); got != c.told() {
				t.Errorf("%s in %d: %s, want %s", c.line, db, got, c.told())
			}
			for _, p := range s.Changed() {
				if p.DB != db {
					t.Errorf("%s in %d has changed %v", c.line, db, p)
				}
			}
		}
	}
}

// TestP13_2_KindsOfHashes: the key must have a hash, or nothing.
func TestP13_2_KindsOfHashes(t *testing.T) {
	for _, v := range others(api.ValHash) {
		s := made(t, 4000)
		store(t, s, "t", v, 50)
		for _, line := range []string{"HDEL t x", "HDEL t a", "HEXISTS t x", "HGET t x", "HGETALL t", "HINCRBY t x 1", "HINCRBY t a 1", "HKEYS t", "HLEN t", "HMGET t x a", "HSCAN t 0", "HSCAN t 0 COUNT 1", "HSET t x 1", "HSET t a 1 b 2", "HSETNX t x 1", "HSETNX t a 1", "HSTRLEN t x", "HVALS t"} {
			play(t, s, 0, row{line, api.BadKind})
			wantChanged(t, s)
		}
	}
}

// TestP13_3_KindsOfSets: every key that is named must have a set, or nothing.
func TestP13_3_KindsOfSets(t *testing.T) {
	for _, v := range others(api.ValSet) {
		s := made(t, 4000)
		store(t, s, "t", v, 50)
		store(t, s, "s", setOf("a x"), 0)
		for _, line := range []string{
			"SADD t x", "SADD t a b", "SCARD t", "SISMEMBER t x", "SMEMBERS t", "SMISMEMBER t x a", "SPOP t", "SPOP t 0", "SPOP t 1", "SREM t x", "SREM t a", "SSCAN t 0", "SSCAN t 0 MATCH *",
			"SDIFF t", "SDIFF t s", "SDIFF s t", "SDIFF s s t", "SDIFF none t", "SINTER t", "SINTER s t", "SINTER t s", "SINTER none t", "SINTER none none t", "SUNION t", "SUNION s t", "SUNION none s t none",
			"SDIFFSTORE s t", "SDIFFSTORE none none t", "SINTERSTORE s none t", "SINTERSTORE t t", "SUNIONSTORE s s t", "SUNIONSTORE t s t", "SINTERCARD 1 t", "SINTERCARD 2 none t", "SINTERCARD 2 s t LIMIT 1", "SINTERCARD 2 t s",
			"SMOVE t s x", "SMOVE s t x", "SMOVE s t none", "SMOVE t t x", "SMOVE none t x", "SMOVE t none x",
		} {
			play(t, s, 0, row{line, api.BadKind})
			wantChanged(t, s)
		}
	}
}
