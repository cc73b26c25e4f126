package desk_test

import (
	"fmt"
	"math"
	"testing"

	"larder/api"
)

func TestP19_2_Clock(t *testing.T) {
	d := made(t, 500)
	for _, c := range []struct{ now, clock uint64 }{{5, 5}, {5, 5}, {4, 5}, {0, 5}, {6, 6}, {api.MaxTime - 1, api.MaxTime - 1}, {math.MaxUint64, api.MaxTime}, {7, api.MaxTime}} {
		if outs := d.Tick(c.now); len(outs) != 0 || d.Space().Clock() != c.clock {
			t.Errorf("Tick(%d): %s, the clock is %d", c.now, saidOuts(outs), d.Space().Clock())
		}
	}
}

func TestP19_2_WhatIsDuePassesAway(t *testing.T) {
	d := made(t, 500)
	play(t, d, "0@0 SET k 1 PX 9 => 0: +OK", "tick 8 =>")
	if d.Space().Size(0) != 1 {
		t.Error("gone too early")
	}
	play(t, d, "tick 9 =>", "entries => 1@0 0 SET k 1 PX 9")
	if d.Space().Size(0) != 0 {
		t.Error("not gone")
	}
}

func TestP19_2_OrderOfThoseWhoseTimeIsOver(t *testing.T) {
	d := made(t, 500)
	play(t, d, "5@0 BLPOP a 30 =>", "1@0 BZPOPMIN a 10 =>", "7@0 BLMOVE a b LEFT LEFT 20 =>", "2@0 BRPOP a 10 =>", "3@0 BLPOP a 0 =>", "0@0 BZPOPMAX a 31 =>", "4@1 BLMOVE c d LEFT LEFT 19 =>",
		"tick 9 =>", "tick 30 => 1: nil array, 2: nil array, 7: nil, 4: nil, 5: nil array", "tick 30 =>", "0@30 PING =>", "tick 31 => 0: nil array, 0: +PONG")
	play(t, d, "6@31 RPUSH a e => 6: :1, 3: [\"a\" \"e\"]")
}

func TestP19_2_TimesAtTheEnd(t *testing.T) {
	d := made(t, 500)
	play(t, d, "1@10 BLPOP a 4503599627370486 =>", "tick 4503599627370495 =>", fmt.Sprint("tick ", uint64(math.MaxUint64), " => 1: nil array"),
		"1@0 BLPOP a 1 => 1: ERR bad time", "1@0 BLPOP a 0 =>", "tick 0 =>", "0@0 RPUSH a e => 0: :1, 1: [\"a\" \"e\"]")
}

// TestP19_2_TheClockDecides: not the reading, if the clock is ahead of it.
func TestP19_2_TheClockDecides(t *testing.T) {
	d := made(t, 500)
	play(t, d, "1@0 BLPOP a 20 =>")
	d.Space().Run(20, nil)
	play(t, d, "tick 3 => 1: nil array")
}

// TestP19_2_TheyAreAnsweredAheadOfAllElse: all whose time is over, then what they have held back, in that order.
func TestP19_2_TheyAreAnsweredAheadOfAllElse(t *testing.T) {
	d := made(t, 500)
	play(t, d, "1@0 BLPOP a 20 =>", "1@0 ECHO one =>", "1@0 RPUSH z 1 =>", "2@0 BLMOVE a b LEFT LEFT 10 =>", "2@0 ECHO two =>", "2@0 ECHO too =>", "3@0 BLPOP z 20 =>", "3@0 ECHO three =>", "4@0 BLPOP z 0 =>", "4@0 ECHO four =>",
		"tick 20 => 2: nil, 1: nil array, 3: nil array, 2: \"two\", 2: \"too\", 1: \"one\", 1: :1, 4: [\"z\" \"1\"], 3: \"three\", 4: \"four\"")
}

func TestP19_2_SameReadingChangesNothing(t *testing.T) {
	d := made(t, 500)
	play(t, d, "0@5 RPUSH l a b => 0: :2", "0@5 SET k 1 PX 3 => 0: +OK", "1@5 BLPOP q l2 9 =>", "1@5 PING =>", "2@5 WATCH k => 2: +OK")
	before, stats := picture(d.Space()), d.Space().Heap().Stats()
	play(t, d, "tick 5 =>", "tick 0 =>", "tick 5 =>")
	if picture(d.Space()) != before || d.Space().Heap().Stats() != stats {
		t.Error("something has changed")
	}
}

func TestP19_5_WhoHasWaitedLongest(t *testing.T) {
	d := made(t, 2000)
	// Whatever the places and kinds: 3 came first, then 1, then 2.
	play(t, d, "3@0 BLPOP x z 0 =>", "1@0 BZPOPMIN y 0 =>", "2@0 BLPOP w x 0 =>", "4@0 BZPOPMAX y 0 =>",
		"0@0 MULTI => 0: +OK", "0@0 RPUSH x a b => 0: +QUEUED", "0@0 ZADD y 1 m 2 n => 0: +QUEUED", "0@0 RPUSH z c => 0: +QUEUED", "0@0 EXEC => 0: [:2 :2 :1], 3: [\"x\" \"a\"], 1: [\"y\" \"m\" \"1\"], 2: [\"x\" \"b\"], 4: [\"y\" \"n\" \"2\"]",
		"0@0 LLEN z => 0: :1")
	// Who waits again stands at the end.
	play(t, d, "3@0 BLPOP x 0 =>", "2@0 BLPOP x 0 =>", "0@0 RPUSH x a => 0: :1, 3: [\"x\" \"a\"]", "3@0 BLPOP x 0 =>", "0@0 RPUSH x b => 0: :1, 2: [\"x\" \"b\"]", "0@0 RPUSH x c => 0: :1, 3: [\"x\" \"c\"]")
}

func TestP19_5_OnlyAValueOfTheKind(t *testing.T) {
	d := made(t, 2000)
	play(t, d, "1@0 BLPOP k 0 =>", "2@0 BZPOPMIN k 0 =>",
		"0@0 SET k 1 => 0: +OK", "0@0 DEL k => 0: :1", "0@0 SADD k m => 0: :1", "0@0 DEL k => 0: :1", "0@0 HSET k f v => 0: :1", "0@0 DEL k => 0: :1",
		"0@0 ZADD k 5 m => 0: :1, 2: [\"k\" \"m\" \"5\"]", "0@0 RPUSH k e => 0: :1, 1: [\"k\" \"e\"]")
}

// TestP19_5_HoweverItComes: a value may come to a place by any command, and in any database.
func TestP19_5_HoweverItComes(t *testing.T) {
	for _, c := range []struct{ make, bring, said string }{
		{"RPUSH l e", "RENAME l q", "+OK"}, {"RPUSH l e", "COPY l q", ":1"}, {"RPUSH l e", "SORT l ALPHA STORE q", ":1"}, {"RPUSH l e", "LMOVE l q LEFT LEFT", "\"e\""},
		{"RPUSH l e", "RENAMENX l q", ":1"}, {"SET l 1", "LPUSH q e", ":1"}, {"RPUSH l e", "RPOPLPUSH l q", "\"e\""},
	} {
		d := made(t, 2000)
		play(t, d, "1@0 BLPOP q 0 =>")
		act(d, "0@0 "+c.make)
		play(t, d, "0@0 "+c.bring+" => 0: "+c.said+", 1: [\"q\" \"e\"]")
	}
	d := made(t, 2000)
	play(t, d, "1@0 SELECT 2 => 1: +OK", "1@0 BLPOP q 0 =>", "0@0 RPUSH q e => 0: :1", "0@0 MOVE q 1 => 0: :1", "0@0 SWAPDB 2 1 => 0: +OK, 1: [\"q\" \"e\"]", "entries => 1@0 0 RPUSH q e, 2@0 0 MOVE q 1, 3@0 0 SWAPDB 2 1, 4@0 2 LPOP q")
	play(t, d, "1@0 BZPOPMAX z 0 =>", "0@0 SELECT 2 => 0: +OK", "0@0 ZADD a 1 m 2 n => 0: :2", "0@0 ZUNIONSTORE z 1 a => 0: :2, 1: [\"z\" \"n\" \"2\"]")
}

// TestP19_5_ByTheSpaceItself: what lies at a place is asked of the space, however it came there.
func TestP19_5_ByTheSpaceItself(t *testing.T) {
	d := made(t, 2000)
	play(t, d, "1@0 BLPOP q 0 =>")
	d.Space().Run(0, func() api.Reply {
		d.Space().Store(0, []byte("q"), api.Value{Kind: api.ValList, List: [][]byte{[]byte("e")}})
		return api.Reply{}
	})
	play(t, d, "tick 0 => 1: [\"q\" \"e\"]", "entries => 1@0 0 LPOP q")
}

func TestP19_5_Turns(t *testing.T) {
	d := made(t, 2000)
	// 1 keeps its turn while others are served by what it does; these come behind it, in the order in which they were served.
	play(t, d, "1@0 BLPOP a 0 =>", "1@0 RPUSH c x =>", "1@0 RPUSH b y =>", "1@0 ECHO last =>",
		"2@0 BLPOP b 0 =>", "2@0 ECHO two =>", "3@0 BLPOP c 0 =>", "3@0 ECHO three =>", "3@0 ECHO too =>", "4@0 BLPOP a 0 =>", "4@0 ECHO four =>",
		"0@0 RPUSH a 0 0 => 0: :2, 1: [\"a\" \"0\"], 4: [\"a\" \"0\"], 1: :1, 3: [\"c\" \"x\"], 1: :1, 2: [\"b\" \"y\"], 1: \"last\", 4: \"four\", 3: \"three\", 3: \"too\", 2: \"two\"")
}

func TestP19_5_WaitingAgainEndsATurn(t *testing.T) {
	d := made(t, 2000)
	play(t, d, "1@0 BLPOP a 0 =>", "1@0 BLPOP b 0 =>", "1@0 ECHO one =>", "2@0 BLPOP a 0 =>", "2@0 RPUSH b x =>", "2@0 ECHO two =>", "3@0 BLPOP a 0 =>", "3@0 ECHO three =>",
		// 1 is served again while 2 has its turn: it comes behind 3.
		"0@0 RPUSH a 0 0 0 => 0: :3, 1: [\"a\" \"0\"], 2: [\"a\" \"0\"], 3: [\"a\" \"0\"], 2: :1, 1: [\"b\" \"x\"], 2: \"two\", 3: \"three\", 1: \"one\"")
	// What is still held back goes on being so, ahead of what comes then.
	play(t, d, "1@0 BLPOP a 0 =>", "1@0 BLPOP b 0 =>", "1@0 ECHO one =>", "0@0 RPUSH a 0 => 0: :1, 1: [\"a\" \"0\"]", "1@0 ECHO two =>", "0@0 RPUSH b 0 => 0: :1, 1: [\"b\" \"0\"], 1: \"one\", 1: \"two\"", "1@0 PING => 1: +PONG")
}

func TestP19_5_OwnHeldBackCommandServes(t *testing.T) {
	d := made(t, 2000)
	play(t, d, "1@0 BLPOP a 0 =>", "1@0 RPUSH b x y =>", "1@0 BLPOP b 0 =>", "1@0 BRPOP b 0 =>", "1@0 BLPOP b 0 =>", "1@0 ECHO one =>",
		"0@0 RPUSH a 0 => 0: :1, 1: [\"a\" \"0\"], 1: :2, 1: [\"b\" \"x\"], 1: [\"b\" \"y\"]", "0@0 RPUSH b z => 0: :1, 1: [\"b\" \"z\"], 1: \"one\"")
}

func TestP19_5_HeldBackQuitAndReset(t *testing.T) {
	d := made(t, 2000)
	play(t, d, "1@0 SELECT 1 => 1: +OK", "1@0 BLPOP a 1 =>", "1@0 MULTI =>", "1@0 RESET =>", "1@0 EXEC =>", "1@0 SET k 1 =>", "1@0 QUIT =>", "1@0 SET k 2 =>", "2@0 BLPOP b 1 =>", "2@0 ECHO two =>",
		"tick 1 => 1: nil array, 2: nil array, 1: +OK, 1: +RESET, 1: ERR EXEC without MULTI, 1: +OK, 1: +OK, 2: \"two\"", "1@1 PING =>", "0@1 GET k => 0: \"1\"")
}

// TestP19_5_Chain: each that is served serves the next.
func TestP19_5_Chain(t *testing.T) {
	d := made(t, 2000)
	for c := 1; c < api.MaxConns; c++ {
		play(t, d, fmt.Sprintf("%d@0 BLMOVE k%d k%d LEFT RIGHT 0 =>", c, c, c+1))
	}
	play(t, d, "0@0 RPUSH k1 e f => 0: :2, 1: \"e\", 2: \"e\", 3: \"e\", 4: \"e\", 5: \"e\", 6: \"e\", 7: \"e\"", "0@0 LRANGE k8 0 -1 => 0: [\"e\"]", "0@0 LRANGE k1 0 -1 => 0: [\"f\"]")
	// A place that comes to have a value again serves the longest one first.
	play(t, d, "5@0 BLPOP x 0 =>", "4@0 BLMOVE y x LEFT LEFT 0 =>", "3@0 BLPOP x 0 =>", "0@0 RPUSH y a => 0: :1, 4: \"a\", 5: [\"x\" \"a\"]", "0@0 RPUSH x b => 0: :1, 3: [\"x\" \"b\"]")
}
