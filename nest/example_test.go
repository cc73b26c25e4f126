package nest_test

import (
	"testing"

	"larder/api"
)

// TestExamples: the chapter's, one behind the other in one space.
func TestExamples(t *testing.T) {
	s := made(t, 4000)
	play(t, s, 0,
		row{"HSET h b 2 a 1 b 3", 2}, row{"HSET h a", api.BadArity}, row{"HSET h a 1 b", api.BadArity}, row{"HGETALL h", bulks("a 1 b 3")},
		row{"HMGET h a x b", `["1" nil "3"]`}, row{"HGET x a", "nil"},
		row{"HINCRBY h a -9223372036854775808", -9223372036854775807}, row{"HINCRBY h a -9", api.BadOver}, row{"HINCRBY h a 1.5", api.BadInt}, row{"HSET h c x", 1}, row{"HINCRBY h c 1", api.BadInt},
		row{"HDEL h a a b c", 3})
	wantGone(t, s, "h")
	play(t, s, 0,
		row{"SADD s c a b a", 3}, row{"SADD t b d", 2},
		row{"SINTER s t", bulks("b")}, row{"SUNION s t", bulks("a b c d")}, row{"SDIFF s t", bulks("a c")}, row{"SDIFF s s", "[]"},
		row{"SDIFFSTORE s s t", 2}, row{"SMEMBERS s", bulks("a c")},
		row{"SINTERCARD 2 s t LIMIT 5", 0}, row{"SINTERCARD 3 s t", api.BadSyntax}, row{"SINTERCARD 0 s", api.BadRange}, row{"SINTERCARD 1 s t", api.BadSyntax},
		row{"SMOVE s t a", 1}, row{"SMOVE s t a", 0}, row{"SMOVE t t a", 1},
		row{"SPOP t", `"a"`}, row{"SPOP t 0", "[]"}, row{"SPOP t 9", bulks("b d")}, row{"SPOP t", "nil"}, row{"SPOP t 1", "[]"},
		row{"SPOP t -1", api.BadRange}, row{"SPOP t x", api.BadInt}, row{"SPOP t 1 1", api.BadSyntax},
		row{"HSCAN s 0", api.BadKind}, row{"HSCAN h 00", api.BadCursor}, row{"HSCAN h 0 COUNT 0", api.BadRange}, row{"HSCAN h 0 MATCH", api.BadSyntax}, row{"HSCAN h 0 COUNT 1 COUNT 1", api.BadSyntax},
		row{"SSCAN s 0 MATCH c*", `["0" ["c"]]`}, row{"SSCAN x 5", `["0" []]`})
	wantValue(t, s, "s", setOf("c"))
	wantGone(t, s, "t")
}
