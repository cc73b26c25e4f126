package order_test

import (
	"testing"

	"larder/api"
)

// TestExamples: the chapter's, one behind the other in one space.
func TestExamples(t *testing.T) {
	s := made(t, 4000)
	play(t, s, 0,
		row{"ZADD z 2 b 1 a 3 c 2 aa", 4}, row{"ZRANGE z 0 -1", bulks("a aa b c")}, row{"ZRANGE z 0 -1 REV WITHSCORES", bulks("c 3 b 2 aa 2 a 1")},
		row{"ZADD z NX 9 a 5 d", 1}, row{"ZADD z XX CH 9 a 1 e", 1}, row{"ZADD z GT CH 3 a 9 b 0 c", 1},
		row{"ZADD z NX GT 1 x", api.BadSyntax}, row{"ZADD z NX", api.BadArity}, row{"ZADD z 1", api.BadArity}, row{"ZADD z 1 a 2", api.BadSyntax}, row{"ZADD z x a", api.BadInt}, row{"ZADD z INCR 1 a 1 b", api.BadSyntax},
		row{"ZADD z INCR 1 a", `"10"`}, row{"ZADD z XX INCR 1 q", "nil"}, row{"ZADD z LT INCR 1 a", "nil"}, row{"ZINCRBY z 9223372036854775807 a", api.BadOver},
		row{"ZRANGE z 0 -1 WITHSCORES", bulks("aa 2 c 3 d 5 b 9 a 10")},
		row{"ZRANK z d", 2}, row{"ZREVRANK z d WITHSCORE", `[2 "5"]`}, row{"ZRANK z q", "nil"}, row{"ZRANK z q WITHSCORE", "nil array"},
		row{"ZCOUNT z (2 5", 2}, row{"ZCOUNT z -inf +inf", 5}, row{"ZCOUNT z 5 (2", 0}, row{"ZCOUNT z x 1", api.BadBound}, row{"ZLEXCOUNT z [a [b", 3},
		row{"ZRANGE z (9 2 BYSCORE REV LIMIT 1 1", bulks("c")}, row{"ZRANGE z [b (c BYLEX", bulks("b")}, row{"ZRANGE z 0 1 LIMIT 0 1", api.BadSyntax}, row{"ZRANGE z - + BYLEX WITHSCORES", api.BadSyntax},
		row{"ZRANGEBYSCORE z 3 5 WITHSCORES LIMIT 0 -1", bulks("c 3 d 5")}, row{"ZREVRANGEBYSCORE z 5 3", bulks("d c")}, row{"ZRANGEBYSCORE z 3 5 REV", api.BadSyntax},
		row{"ZRANGESTORE y z (5 +inf BYSCORE", 2}, row{"ZRANGE y 0 -1", bulks("b a")}, row{"ZRANGESTORE y z 9 9", 0}, row{"ZCARD y", 0})
	wantGone(t, s, "y")
	play(t, s, 0,
		row{"ZPOPMIN z", bulks("aa 2")}, row{"ZPOPMAX z 2", bulks("a 10 b 9")}, row{"ZPOPMIN z 0", "[]"}, row{"ZPOPMIN z -1", api.BadRange}, row{"ZMPOP 2 q z MAX COUNT 9", `["z" [["d" "5"] ["c" "3"]]]`}, row{"ZMPOP 1 z MIN", "nil array"},
		row{"ZADD p 1 a 2 b", 2}, row{"ZADD q 3 b 4 c", 2})
	store(t, s, "s", setOf("b d"), 0)
	play(t, s, 0,
		row{"ZUNION 3 p q s WITHSCORES", bulks("a 1 d 1 c 4 b 6")}, row{"ZINTER 2 p q WEIGHTS 10 -1 WITHSCORES", bulks("b 17")}, row{"ZDIFF 2 p s", bulks("a")}, row{"ZINTERCARD 3 p q s LIMIT 0", 1},
		row{"ZUNION 2 p q AGGREGATE MAX WEIGHTS 1", api.BadSyntax}, row{"ZUNION 0 p", api.BadRange}, row{"ZUNION 3 p q", api.BadSyntax}, row{"ZUNION 1 p WITHSCORES WITHSCORES", api.BadSyntax},
		row{"ZADD m 9223372036854775807 x", 1}, row{"ZUNIONSTORE d 2 m m", api.BadOver}, row{"ZUNIONSTORE d 2 m m AGGREGATE MIN", 1}, row{"ZINTERSTORE d 2 m p WEIGHTS 2 1", 0})
	wantGone(t, s, "d")
	play(t, s, 0,
		row{"ZSCAN m 0", `["0" ["x" "9223372036854775807"]]`}, row{"ZSCAN m 01", api.BadCursor}, row{"ZSCAN m 0 COUNT 0", api.BadRange}, row{"ZSCAN none 5", `["0" []]`})
}
