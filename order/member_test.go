package order_test

import (
	"strings"
	"testing"

	"larder/api"
)

func TestP14_3_ZADD(t *testing.T) {
	playAll(t,
		turn{"", "ZADD k 1 a", 1, "1 a"}, turn{"", "ZADD k 2 b 1 a 3 c 2 aa", 4, "1 a 2 aa 2 b 3 c"}, turn{"1 a", "ZADD k 1 a", 0, "1 a"}, turn{"1 a", "ZADD k 2 a", 0, "2 a"}, turn{"1 a 2 b", "ZADD k 3 a", 0, "2 b 3 a"}, turn{"1 a", "ZADD k 0 b 5 c", 2, "0 b 1 a 5 c"}, turn{"1 a", "ZADD k 1 A", 1, "1 A 1 a"},
		turn{"", `ZADD k 1 ""`, 1, `1 ""`}, turn{"1 a", `ZADD k 1 "" 1 "a\x00" 1 "\xff\r\n"`, 3, `1 "" 1 a 1 "a\x00" 1 "\xff\r\n"`},
		turn{"", "ZADD k " + greatest + " a " + least + " b 0 c", 3, least + " b 0 c " + greatest + " a"},
		// In order: the last of a member's scores stays, and each change counts.
		turn{"", "ZADD k 1 a 2 a 3 a", 1, "3 a"}, turn{"", "ZADD k CH 1 a 2 a 3 a", 3, "3 a"}, turn{"", "ZADD k CH 1 a 1 a", 1, "1 a"}, turn{"1 a", "ZADD k CH 2 a 1 a", 2, "1 a"}, turn{"1 a", "ZADD k CH 1 a", 0, "1 a"}, turn{"1 a", "ZADD k CH 2 a 5 b", 2, "2 a 5 b"}, turn{"1 a", "ZADD k 2 a 5 b", 1, "2 a 5 b"},
		// Options are read up to the first word that is none; behind it they are scores and members.
		turn{"", "ZADD k 1 NX 2 XX 3 gt 4 LT 5 CH 6 INCR", 6, "1 NX 2 XX 3 gt 4 LT 5 CH 6 INCR"}, turn{"", "ZADD k NX 1 NX", 1, "1 NX"}, turn{"1 a", "ZADD k 2 a CH 3 b", api.BadInt, "1 a"},
	)
}

func TestP14_3_ZADDOnlyNewOnlyOld(t *testing.T) {
	playAll(t,
		turn{"1 a", "ZADD k NX 9 a", 0, "1 a"}, turn{"1 a", "ZADD k NX 9 a 5 d", 1, "1 a 5 d"}, turn{"1 a", "ZADD k NX CH 9 a 5 d", 1, "1 a 5 d"}, turn{"", "ZADD k NX 1 a 2 a", 1, "1 a"}, turn{"", "ZADD k CH NX 1 a 2 a", 1, "1 a"},
		turn{"1 a", "ZADD k XX 9 a", 0, "9 a"}, turn{"1 a", "ZADD k XX 9 a 5 d", 0, "9 a"}, turn{"1 a", "ZADD k XX CH 9 a 1 e", 1, "9 a"}, turn{"", "ZADD k XX 1 a", 0, ""}, turn{"", "ZADD k XX CH 1 a 2 a", 0, ""}, turn{"1 a", "ZADD k XX 5 b 6 c", 0, "1 a"},
	)
}

func TestP14_3_ZADDUpDown(t *testing.T) {
	playAll(t,
		turn{"5 a", "ZADD k GT 6 a", 0, "6 a"}, turn{"5 a", "ZADD k GT CH 6 a", 1, "6 a"}, turn{"5 a", "ZADD k GT CH 5 a", 0, "5 a"}, turn{"5 a", "ZADD k GT CH 4 a", 0, "5 a"}, turn{"5 a", "ZADD k GT CH 4 b", 1, "4 b 5 a"}, turn{"5 a", "ZADD k GT 4 b", 1, "4 b 5 a"}, turn{"", "ZADD k GT CH 1 a 3 a 2 a", 2, "3 a"},
		turn{"5 a", "ZADD k LT 4 a", 0, "4 a"}, turn{"5 a", "ZADD k LT CH 4 a", 1, "4 a"}, turn{"5 a", "ZADD k LT CH 5 a", 0, "5 a"}, turn{"5 a", "ZADD k LT CH 6 a", 0, "5 a"}, turn{"5 a", "ZADD k LT 6 b", 1, "5 a 6 b"}, turn{"", "ZADD k LT CH 3 a 1 a 2 a", 2, "1 a"},
		turn{"5 a", "ZADD k XX GT CH 6 a 9 b", 1, "6 a"}, turn{"5 a", "ZADD k GT XX CH 4 a 9 b", 0, "5 a"}, turn{"5 a", "ZADD k LT XX CH 4 a 1 b", 1, "4 a"}, turn{"5 a", "ZADD k XX LT CH 6 a", 0, "5 a"}, turn{"", "ZADD k XX GT 1 a", 0, ""},
		turn{"1 a 2 b 3 c", "ZADD k GT CH 3 a 9 b 0 c", 2, "3 a 3 c 9 b"},
	)
}

func TestP14_3_ZADDIncrease(t *testing.T) {
	playAll(t,
		turn{"", "ZADD k INCR 5 a", `"5"`, "5 a"}, turn{"", "ZADD k INCR 0 a", `"0"`, "0 a"}, turn{"5 a", "ZADD k INCR -7 a", `"-2"`, "-2 a"}, turn{"5 a", "ZADD k INCR 0 a", `"5"`, "5 a"}, turn{"5 a", "ZADD k INCR 3 b", `"3"`, "3 b 5 a"}, turn{"5 a", "ZADD k CH INCR 1 a", `"6"`, "6 a"}, turn{"1 a 2 b", "ZADD k INCR 1 a", `"2"`, "2 a 2 b"},
		turn{"5 a", "ZADD k NX INCR 1 a", "nil", "5 a"}, turn{"5 a", "ZADD k INCR NX 1 b", `"1"`, "1 b 5 a"}, turn{"", "ZADD k NX INCR 1 a", `"1"`, "1 a"}, turn{"5 a", "ZADD k XX INCR 1 a", `"6"`, "6 a"}, turn{"5 a", "ZADD k XX INCR 1 b", "nil", "5 a"}, turn{"", "ZADD k XX INCR 1 a", "nil", ""},
		turn{"5 a", "ZADD k GT INCR 1 a", `"6"`, "6 a"}, turn{"5 a", "ZADD k GT INCR 0 a", "nil", "5 a"}, turn{"5 a", "ZADD k GT CH INCR -1 a", "nil", "5 a"}, turn{"5 a", "ZADD k LT INCR -1 a", `"4"`, "4 a"}, turn{"5 a", "ZADD k LT INCR 0 a", "nil", "5 a"}, turn{"5 a", "ZADD k INCR LT 1 a", "nil", "5 a"}, turn{"5 a", "ZADD k GT INCR -1 b", `"-1"`, "-1 b 5 a"}, turn{"5 a", "ZADD k LT INCR 1 b", `"1"`, "1 b 5 a"}, turn{"", "ZADD k LT INCR 1 b", `"1"`, "1 b"}, turn{"5 a", "ZADD k GT XX INCR 1 a", `"6"`, "6 a"}, turn{"5 a", "ZADD k GT XX INCR 1 b", "nil", "5 a"},
		turn{greatest + " a", "ZADD k INCR 1 a", api.BadOver, greatest + " a"}, turn{least + " a", "ZADD k INCR -1 a", api.BadOver, least + " a"}, turn{greatest + " a", "ZADD k INCR " + greatest + " a", api.BadOver, greatest + " a"}, turn{least + " a", "ZADD k INCR " + least + " a", api.BadOver, least + " a"}, turn{greatest + " a", "ZADD k INCR " + least + " a", `"-1"`, "-1 a"}, turn{"", "ZADD k INCR " + least + " a", `"` + least + `"`, least + " a"},
		// The sum is asked for only where the rules let the member in, but ahead of GT and LT.
		turn{greatest + " a", "ZADD k NX INCR 1 a", "nil", greatest + " a"}, turn{greatest + " a", "ZADD k XX INCR 1 a", api.BadOver, greatest + " a"}, turn{greatest + " a", "ZADD k LT INCR 1 a", api.BadOver, greatest + " a"}, turn{greatest + " a", "ZADD k GT INCR 1 a", api.BadOver, greatest + " a"}, turn{least + " a", "ZADD k GT INCR -1 a", api.BadOver, least + " a"}, turn{greatest + " a", "ZADD k GT INCR 0 a", "nil", greatest + " a"},
	)
}

func TestP14_3_ZADDWrongArguments(t *testing.T) {
	for _, line := range []string{
		"NX NX 1 a", "XX XX 1 a", "GT GT 1 a", "LT LT 1 a", "CH CH 1 a", "INCR INCR 1 a", "CH NX CH 1 a", "nx Nx x y",
		"NX XX 1 a", "XX NX 1 a", "NX GT 1 a", "GT NX 1 a", "NX LT 1 a", "LT NX 1 a", "GT LT 1 a", "LT GT 1 a", "XX GT LT 1 a", "XX LT GT 1 a", "CH NX INCR XX 1 a",
		"NX XX x y", "GT LT x y", "XX GT NX", "NX CH", "CH INCR", "XX GT CH", "GT XX INCR CH", "CH NX", "CH XX", "XX GT", "XX LT", "INCR CH GT XX",
		"1 a 2", "1 a 2 b 3", "INCR 1", "NX 1", "XX 1 a 2", "CH 1", greatest + " a " + least,
		"INCR 1 a 1 b", "INCR 1 a 1", "INCR 1 a x", "INCR 1 a x y", "INCR CH 1 a INCR", "GT INCR 1 a 2 b",
	} {
		playAll(t, turn{"1 a", "ZADD k " + line, api.BadSyntax, "1 a"})
	}
	for _, line := range []string{
		"x a", "1.5 a", "01 a", "+1 a", "-0 a", `"" a`, `"1\x20" a`, "inf a", "-inf a", "(1 a", "9223372036854775808 a", "-9223372036854775809 a", "x", "1 a x", "1 a x b", "1 a NX 2", "NX x", "CH x a", "INCR x a", "INCR x", "INCR x a 1 b", "NXX 1 a", "1 a 2 b x c", "x a 2", "NX 1 a x",
	} {
		if len(strings.Fields(line)) < 2 {
			playAll(t, turn{"1 a", "ZADD k " + line, api.BadArity, "1 a"})
			continue
		}
		playAll(t, turn{"1 a", "ZADD k " + line, api.BadInt, "1 a"}, turn{"", "ZADD k " + line, api.BadInt, ""})
	}
}

func TestP14_4_ZINCRBY(t *testing.T) {
	playAll(t,
		turn{"", "ZINCRBY k 5 a", `"5"`, "5 a"}, turn{"", "ZINCRBY k 0 a", `"0"`, "0 a"}, turn{"5 a", "ZINCRBY k -7 a", `"-2"`, "-2 a"}, turn{"5 a 7 b", "ZINCRBY k 3 a", `"8"`, "7 b 8 a"}, turn{"5 a", "ZINCRBY k 0 a", `"5"`, "5 a"}, turn{"5 a", `ZINCRBY k 3 ""`, `"3"`, `3 "" 5 a`}, turn{"", "ZINCRBY k 5 NX", `"5"`, "5 NX"},
		turn{"1 a", "ZINCRBY k " + greatest + " a", api.BadOver, "1 a"}, turn{"-1 a", "ZINCRBY k " + least + " a", api.BadOver, "-1 a"}, turn{"0 a", "ZINCRBY k " + greatest + " a", `"` + greatest + `"`, greatest + " a"}, turn{"", "ZINCRBY k " + greatest + " a", `"` + greatest + `"`, greatest + " a"}, turn{"-1 a", "ZINCRBY k " + greatest + " a", `"9223372036854775806"`, "9223372036854775806 a"},
		turn{"5 a", "ZINCRBY k x a", api.BadInt, "5 a"}, turn{"5 a", "ZINCRBY k 1.5 a", api.BadInt, "5 a"}, turn{"5 a", `ZINCRBY k "" a`, api.BadInt, "5 a"}, turn{"5 a", "ZINCRBY k a 1", api.BadInt, "5 a"}, turn{"5 a", "ZINCRBY k NX a", api.BadInt, "5 a"}, turn{"", "ZINCRBY k 9223372036854775808 a", api.BadInt, ""},
	)
}

func TestP14_5_Asking(t *testing.T) {
	const v = `-3 "" 0 a 0 aa ` + greatest + ` b`
	playAll(t,
		turn{v, "ZCARD k", 4, v}, turn{"1 a", "ZCARD k", 1, "1 a"}, turn{"", "ZCARD k", 0, ""},
		turn{v, "ZSCORE k a", `"0"`, v}, turn{v, "ZSCORE k b", `"` + greatest + `"`, v}, turn{v, `ZSCORE k ""`, `"-3"`, v}, turn{v, "ZSCORE k A", "nil", v}, turn{v, "ZSCORE k aaa", "nil", v}, turn{"", "ZSCORE k a", "nil", ""},
		turn{v, "ZMSCORE k a", `["0"]`, v}, turn{v, `ZMSCORE k b x "" a b`, `["` + greatest + `" nil "-3" "0" "` + greatest + `"]`, v}, turn{v, "ZMSCORE k x y", "[nil nil]", v}, turn{"", "ZMSCORE k a b", "[nil nil]", ""},
	)
}

func TestP14_5_ZREM(t *testing.T) {
	playAll(t,
		turn{"1 a 2 b 3 c", "ZREM k b", 1, "1 a 3 c"}, turn{"1 a 2 b 3 c", "ZREM k b b", 1, "1 a 3 c"}, turn{"1 a 2 b 3 c", "ZREM k x c a y", 2, "2 b"}, turn{"1 a 2 b 3 c", "ZREM k a b c", 3, ""}, turn{"1 a", "ZREM k a a", 1, ""}, turn{"1 a", "ZREM k b", 0, "1 a"}, turn{"1 a", "ZREM k A", 0, "1 a"}, turn{`1 "" 1 a`, `ZREM k ""`, 1, "1 a"}, turn{"", "ZREM k a b", 0, ""}, turn{"1 a", "ZREM k 1", 0, "1 a"},
	)
}

func TestP14_6_Places(t *testing.T) {
	const v = "-5 x 2 aa 2 b 2 c 9 a"
	for i, c := range [][2]string{{"x", "-5"}, {"aa", "2"}, {"b", "2"}, {"c", "2"}, {"a", "9"}} {
		member, score := c[0], c[1]
		playAll(t,
			turn{v, "ZRANK k " + member, i, v}, turn{v, "ZREVRANK k " + member, 4 - i, v},
			turn{v, "ZRANK k " + member + " WITHSCORE", `[` + string(rune('0'+i)) + ` "` + score + `"]`, v}, turn{v, "ZREVRANK k " + member + " withscore", `[` + string(rune('4'-i)) + ` "` + score + `"]`, v},
		)
	}
	for _, name := range []string{"ZRANK", "ZREVRANK"} {
		playAll(t,
			turn{v, name + " k none", "nil", v}, turn{v, name + " k none WITHSCORE", "nil array", v}, turn{"", name + " k a", "nil", ""}, turn{"", name + " k a WITHSCORE", "nil array", ""}, turn{"1 a", name + " k a", 0, "1 a"}, turn{`1 WITHSCORE`, name + " k WITHSCORE", 0, "1 WITHSCORE"},
			turn{v, name + " k a WITHSCORES", api.BadSyntax, v}, turn{v, name + " k a x", api.BadSyntax, v}, turn{v, name + ` k a ""`, api.BadSyntax, v}, turn{v, name + " k a WITHSCORE x", api.BadSyntax, v}, turn{v, name + " k a WITHSCORE WITHSCORE", api.BadSyntax, v}, turn{"", name + " k a x", api.BadSyntax, ""}, turn{v, name + " t a x", api.BadSyntax, v}, turn{v, name + " t a", api.BadKind, v},
		)
	}
}
