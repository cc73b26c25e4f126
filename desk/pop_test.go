package desk_test

import (
	"fmt"
	"testing"

	"larder/api"
)

func TestP19_9_AtOnce(t *testing.T) {
	d := made(t, 900)
	play(t, d, "0@0 RPUSH l a b c d => 0: :4", "0@0 ZADD z 1 m 2 n -3 o => 0: :3", "entries => 1@0 0 RPUSH l a b c d, 2@0 0 ZADD z 1 m 2 n -3 o",
		"0@0 BLPOP l 0 => 0: [\"l\" \"a\"]", "0@0 BRPOP none l 5 => 0: [\"l\" \"d\"]", "0@0 BLMOVE l m RIGHT LEFT 0 => 0: \"c\"", "0@0 BLMOVE l m LEFT right 0 => 0: \"b\"", "0@0 LRANGE m 0 -1 => 0: [\"c\" \"b\"]", "0@0 EXISTS l => 0: :0",
		"0@0 BZPOPMIN none z 0 => 0: [\"z\" \"o\" \"-3\"]", "0@0 BZPOPMAX z none 0 => 0: [\"z\" \"n\" \"2\"]", "0@0 bzpopmin z z 0 => 0: [\"z\" \"m\" \"1\"]", "0@0 EXISTS z => 0: :0",
		"entries => 3@0 0 LPOP l, 4@0 0 RPOP l, 5@0 0 LMOVE l m RIGHT LEFT, 6@0 0 LMOVE l m LEFT right, 7@0 0 ZPOPMIN z, 8@0 0 ZPOPMAX z, 9@0 0 ZPOPMIN z")
}

func TestP19_9_FirstOfTheKeys(t *testing.T) {
	d := made(t, 900)
	play(t, d, "0@0 RPUSH b 1 => 0: :1", "0@0 RPUSH a 2 => 0: :1", "0@0 BLPOP c b a 0 => 0: [\"b\" \"1\"]", "0@0 BLPOP c b a 0 => 0: [\"a\" \"2\"]",
		"1@0 BRPOP c b a b 0 =>", "0@0 MULTI => 0: +OK", "0@0 RPUSH a 3 4 => 0: +QUEUED", "0@0 RPUSH b 5 6 => 0: +QUEUED", "0@0 EXEC => 0: [:2 :2], 1: [\"b\" \"6\"]", "entries => 1@0 0 RPUSH b 1, 2@0 0 RPUSH a 2, 3@0 0 LPOP b, 4@0 0 LPOP a, 5@0 0 RPUSH a 3 4; 0 RPUSH b 5 6, 6@0 0 RPOP b")
	// Keys of another kind are passed over when it is served.
	play(t, d, "0@0 FLUSHALL => 0: +OK", "1@0 BZPOPMAX x y z 0 =>", "0@0 SET x 1 => 0: +OK", "0@0 RPUSH y e => 0: :1", "0@0 ZADD z 4 m 5 n => 0: :2, 1: [\"z\" \"n\" \"5\"]")
}

func TestP19_9_OddBytes(t *testing.T) {
	d := made(t, 900)
	key := []byte("\x00\xff k")
	wantOuts(t, d, 1, [][]byte{[]byte("BLPOP"), key, nil, []byte("0")}, "")
	wantOuts(t, d, 0, [][]byte{[]byte("RPUSH"), key, {}}, fmt.Sprintf("0: :1, 1: [%q \"\"]", key))
	wantOuts(t, d, 1, [][]byte{[]byte("BZPOPMIN"), {}, []byte("0")}, "")
	wantOuts(t, d, 0, [][]byte{[]byte("ZADD"), nil, []byte("1"), []byte("\n")}, fmt.Sprintf("0: :1, 1: [\"\" %q \"1\"]", "\n"))
}

func TestP19_9_Move(t *testing.T) {
	d := made(t, 900)
	play(t, d, "1@0 BLMOVE x y left RIGHT 0 =>", "0@0 RPUSH y q => 0: :1", "0@0 RPUSH x a b => 0: :2, 1: \"a\"", "0@0 LRANGE y 0 -1 => 0: [\"q\" \"a\"]", "entries => 1@0 0 RPUSH y q, 2@0 0 RPUSH x a b, 3@0 0 LMOVE x y left RIGHT",
		"0@0 DEL x => 0: :1", "1@0 BLMOVE x y RIGHT LEFT 0 =>", "0@0 RPUSH x a b => 0: :2, 1: \"b\"", "0@0 LRANGE y 0 -1 => 0: [\"b\" \"q\" \"a\"]")
	// On itself a list of one element does not change: there is no entry.
	play(t, d, "0@0 FLUSHALL => 0: +OK", "entries => 4@0 0 DEL x, 5@0 0 RPUSH x a b, 6@0 0 LMOVE x y RIGHT LEFT, 7@0 0 FLUSHALL", "1@0 BLMOVE x x LEFT RIGHT 0 =>", "2@0 BLPOP x 0 =>", "0@0 RPUSH x a => 0: :1, 1: \"a\", 2: [\"x\" \"a\"]", "entries => 8@0 0 RPUSH x a, 9@0 0 LPOP x")
}

func TestP19_9_MoveThatIsRefused(t *testing.T) {
	d := made(t, 900)
	play(t, d, "1@0 BLMOVE x y LEFT RIGHT 9 =>", "1@0 PING =>", "2@0 BLMOVE x z LEFT RIGHT 0 =>", "0@0 SET y 1 => 0: +OK", "0@0 RPUSH x a => 0: :1, 1: WRONGTYPE another kind of value, 2: \"a\", 1: +PONG", "tick 9 =>", "entries => 1@0 0 SET y 1, 2@0 0 RPUSH x a, 3@0 0 LMOVE x z LEFT RIGHT")
	// For want of quota: a new list costs more than what goes.
	d = made(t, 256)
	play(t, d, "0@0 RPUSH x a a => 0: :2", "0@0 SET pad "+long(1200)+" => 0: +OK", "0@0 BLMOVE x y LEFT LEFT 0 => 0: OOM", "0@0 LLEN x => 0: :2", "0@0 PING => 0: +PONG")
	play(t, d, "1@0 BLMOVE w y LEFT LEFT 0 =>", "0@0 RENAME x w => 0: +OK, 1: OOM", "0@0 LLEN w => 0: :2", "1@0 PING => 1: +PONG")
}

func TestP19_7_Times(t *testing.T) {
	d := made(t, 900)
	play(t, d, "tick 100 =>")
	for _, name := range []string{"BLPOP q", "BRPOP q r", "BZPOPMIN q", "BZPOPMAX q q", "BLMOVE q r LEFT LEFT"} {
		for _, ms := range []string{"x", "1.5", "", "01", "-0", "+1", "9223372036854775808", "-9223372036854775809"} {
			wantOuts(t, d, 0, append(words(name), []byte(ms)), "0: ERR not an integer")
		}
		for _, ms := range []string{"-1", "-9223372036854775808", "4503599627370397", "9223372036854775807"} {
			wantOuts(t, d, 0, append(words(name), []byte(ms)), "0: ERR bad time")
		}
		wantOuts(t, d, 0, append(words(name), []byte("4503599627370396")), "")
		play(t, d, "leave 0", "0@0 "+name+" 1 =>", "tick 100 =>", "leave 0")
	}
	play(t, d, "0@0 BLPOP q 1 =>", "tick 101 => 0: nil array", "0@0 BLMOVE q r LEFT LEFT 1 =>", "tick 102 => 0: nil", "0@0 BZPOPMAX q 0 =>", "tick 4503599627370496 =>")
}

// TestP19_7_OrderOfRefusals: of a waiting pop, from left to right; nothing is popped, and nobody waits.
func TestP19_7_OrderOfRefusals(t *testing.T) {
	d := made(t, 900)
	play(t, d, "0@0 SET t 1 => 0: +OK", "0@0 RPUSH l a => 0: :1", "0@0 ZADD z 1 m => 0: :1", "entries => 1@0 0 SET t 1, 2@0 0 RPUSH l a, 3@0 0 ZADD z 1 m")
	for _, c := range []struct{ line, want string }{
		{list("BLPOP t", 64, "x"), "ERR too many"}, {list("BZPOPMIN", 65, "x"), "ERR too many"}, {list("BRPOP", 126, "0"), "ERR too many"}, {list("BZPOPMAX", 100, "-1"), "ERR too many"},
		{list("BLPOP t", 63, "x"), "ERR not an integer"}, {"BLPOP t -1", "ERR bad time"}, {"BLPOP l x", "ERR not an integer"}, {"BLPOP l t 0", "WRONGTYPE another kind of value"}, {"BLPOP none t l 0", "WRONGTYPE another kind of value"}, {"BLPOP z 0", "WRONGTYPE another kind of value"}, {"BRPOP t 0", "WRONGTYPE another kind of value"},
		{"BZPOPMIN l 0", "WRONGTYPE another kind of value"}, {"BZPOPMIN z t 0", "WRONGTYPE another kind of value"}, {"BZPOPMAX z l 0", "WRONGTYPE another kind of value"}, {"BZPOPMAX none t 0", "WRONGTYPE another kind of value"},
		{"BLMOVE t t UP DOWN x", "ERR syntax"}, {"BLMOVE t t LEFT DOWN x", "ERR syntax"}, {"BLMOVE t t LEFT RIGHT x", "ERR not an integer"}, {"BLMOVE t t LEFT RIGHT -1", "ERR bad time"}, {"BLMOVE t l LEFT RIGHT 0", "WRONGTYPE another kind of value"}, {"BLMOVE l t LEFT RIGHT 0", "WRONGTYPE another kind of value"}, {"BLMOVE none t LEFT RIGHT 0", "WRONGTYPE another kind of value"}, {"BLMOVE l z LEFT RIGHT 0", "WRONGTYPE another kind of value"}, {"BLMOVE l l LEF RIGHT 0", "ERR syntax"}, {"BLMOVE l l LEFT RIGHTS 0", "ERR syntax"},
	} {
		play(t, d, "1@0 "+c.line+" => 1: "+c.want, "1@0 PING => 1: +PONG", "entries =>")
	}
	play(t, d, "0@0 LLEN l => 0: :1", "0@0 ZCARD z => 0: :1")
}

func TestP19_7_MaxWait(t *testing.T) {
	for _, name := range []string{"BLPOP", "BRPOP"} {
		d := made(t, 900)
		play(t, d, "1@0 "+list(name, 64, "0")+" =>", "0@0 RPUSH k63 e => 0: :1, 1: [\"k63\" \"e\"]", "1@0 "+list(name, 63, "k0 0")+" =>", "0@0 RPUSH k0 e => 0: :1, 1: [\"k0\" \"e\"]", "1@0 "+list(name, 64, "k0 0")+" => 1: ERR too many")
	}
}

func TestP19_7_WaitsInItsDatabase(t *testing.T) {
	for db := range api.MaxDB {
		d := made(t, 900)
		play(t, d, fmt.Sprintf("1@0 SELECT %d => 1: +OK", db), "1@0 BLPOP q 0 =>", "1@0 SELECT 0 =>")
		for other := range api.MaxDB {
			if other != db {
				play(t, d, fmt.Sprintf("0@0 SELECT %d => 0: +OK", other), "0@0 RPUSH q x => 0: :1")
			}
		}
		d.Entries()
		play(t, d, fmt.Sprintf("0@0 SELECT %d => 0: +OK", db), "0@0 RPUSH q y z => 0: :2, 1: [\"q\" \"y\"], 1: +OK", fmt.Sprintf("entries => 4@0 %d RPUSH q y z, 5@0 %d LPOP q", db, db))
	}
}

func TestP19_7_WaitsForTheKindOnly(t *testing.T) {
	// A key that came to have another kind while the pop waits does not end the waiting.
	d := made(t, 900)
	play(t, d, "1@0 BLPOP q r 50 =>", "0@0 SET q 1 => 0: +OK", "0@0 ZADD r 1 m => 0: :1", "tick 49 =>", "0@49 SET r 1 => 0: +OK", "tick 50 => 1: nil array", "1@50 BLPOP q 0 => 1: WRONGTYPE another kind of value")
}
