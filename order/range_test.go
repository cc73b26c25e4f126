package order_test

import (
	"fmt"
	"strings"
	"testing"

	"larder/api"
)

// five is the ranked set that most ranges are asked of.
const five = "2 aa 3 c 5 d 9 b 10 a"

func TestP14_7_Counts(t *testing.T) {
	playAll(t,
		turn{five, "ZCOUNT k (2 5", 2, five}, turn{five, "ZCOUNT k 2 5", 3, five}, turn{five, "ZCOUNT k 2 (5", 2, five}, turn{five, "ZCOUNT k (2 (5", 1, five}, turn{five, "ZCOUNT k (2 (3", 0, five}, turn{five, "ZCOUNT k -inf +inf", 5, five}, turn{five, "ZCOUNT k -inf inf", 5, five}, turn{five, "ZCOUNT k (-inf (inf", 5, five}, turn{five, "ZCOUNT k +inf -inf", 0, five}, turn{five, "ZCOUNT k 5 (2", 0, five}, turn{five, "ZCOUNT k 5 5", 1, five}, turn{five, "ZCOUNT k (5 5", 0, five}, turn{five, "ZCOUNT k 4 4", 0, five}, turn{five, "ZCOUNT k 11 +inf", 0, five}, turn{"", "ZCOUNT k 1 2", 0, ""}, turn{"1 a 1 b 1 c", "ZCOUNT k 1 1", 3, "1 a 1 b 1 c"},
		turn{least + " a " + greatest + " b", "ZCOUNT k -inf " + least, 1, least + " a " + greatest + " b"}, turn{least + " a " + greatest + " b", "ZCOUNT k (" + least + " (" + greatest, 0, least + " a " + greatest + " b"}, turn{least + " a " + greatest + " b", "ZCOUNT k " + greatest + " inf", 1, least + " a " + greatest + " b"},
		turn{five, "ZLEXCOUNT k [a [b", 3, five}, turn{five, "ZLEXCOUNT k (a [b", 2, five}, turn{five, "ZLEXCOUNT k [a (b", 2, five}, turn{five, "ZLEXCOUNT k (a (aa", 0, five}, turn{five, "ZLEXCOUNT k - +", 5, five}, turn{five, "ZLEXCOUNT k + -", 0, five}, turn{five, "ZLEXCOUNT k [b [b", 1, five}, turn{five, "ZLEXCOUNT k (b [b", 0, five}, turn{five, "ZLEXCOUNT k - (a", 0, five}, turn{five, "ZLEXCOUNT k [d [b", 0, five}, turn{five, "ZLEXCOUNT k [ (c", 3, five}, turn{`1 "" 2 a`, "ZLEXCOUNT k [ [", 1, `1 "" 2 a`}, turn{`1 "" 2 a`, "ZLEXCOUNT k ( +", 1, `1 "" 2 a`}, turn{"", "ZLEXCOUNT k - +", 0, ""},
	)
	for _, b := range []string{"x", `""`, "(", "((1", "[1", "1.5", "+5", "INF", "-Inf", "9223372036854775808", "-", "+", "01"} {
		playAll(t, turn{five, "ZCOUNT k " + b + " 1", api.BadBound, five}, turn{five, "ZCOUNT k 1 " + b, api.BadBound, five}, turn{"", "ZCOUNT k " + b + " x", api.BadBound, ""}, turn{"", "ZCOUNT t 1 " + b, api.BadBound, ""})
	}
	for _, b := range []string{"a", `""`, "1", "--", "+a", "-inf", "]a"} {
		playAll(t, turn{five, "ZLEXCOUNT k " + b + " [b", api.BadBound, five}, turn{five, "ZLEXCOUNT k [b " + b, api.BadBound, five}, turn{"", "ZLEXCOUNT t - " + b, api.BadBound, ""})
	}
}

func TestP14_8_ByPlace(t *testing.T) {
	for _, c := range []struct{ ends, want string }{
		{"0 -1", "aa c d b a"}, {"0 0", "aa"}, {"1 3", "c d b"}, {"3 99", "b a"}, {"-2 -1", "b a"}, {"-3 -2", "d b"}, {"-99 1", "aa c"}, {"4 4", "a"}, {"5 9", ""}, {"3 2", ""}, {"0 -6", ""}, {"-1 0", ""}, {least + " " + greatest, "aa c d b a"}, {greatest + " " + greatest, ""}, {least + " " + least, ""},
	} {
		playAll(t, turn{five, "ZRANGE k " + c.ends, bulks(c.want), five}, turn{five, "ZRANGE k " + c.ends + " WITHSCORES", bulks(scored(five, c.want)), five}, turn{"", "ZRANGE k " + c.ends, "[]", ""})
	}
	for _, c := range []struct{ ends, want string }{
		{"0 -1", "a b d c aa"}, {"0 0", "a"}, {"1 3", "b d c"}, {"3 99", "c aa"}, {"-2 -1", "c aa"}, {"4 4", "aa"}, {"5 9", ""}, {"3 2", ""}, {least + " " + greatest, "a b d c aa"},
	} {
		playAll(t,
			turn{five, "ZRANGE k " + c.ends + " REV", bulks(c.want), five}, turn{five, "ZRANGE k " + c.ends + " REV WITHSCORES", bulks(scored(five, c.want)), five}, turn{five, "ZRANGE k " + c.ends + " WITHSCORES REV", bulks(scored(five, c.want)), five},
			turn{five, "ZREVRANGE k " + c.ends, bulks(c.want), five}, turn{five, "ZREVRANGE k " + c.ends + " WITHSCORES", bulks(scored(five, c.want)), five}, turn{"", "ZREVRANGE k " + c.ends + " WITHSCORES", "[]", ""})
	}
}

// scored puts behind each of the members its score in a value.
func scored(value, members string) string {
	l := words(value)
	var found []string
	for _, m := range words(members) {
		for i := 1; i < len(l); i += 2 {
			if l[i] == m {
				found = append(found, m, l[i-1])
			}
		}
	}
	return strings.Join(found, " ")
}

func TestP14_8_ByScore(t *testing.T) {
	for _, c := range []struct{ lo, hi, limit, want, back string }{
		{"-inf", "+inf", "", "aa c d b a", "a b d c aa"}, {"2", "(9", "", "aa c d", "d c aa"}, {"(2", "9", "", "c d b", "b d c"}, {"5", "5", "", "d", "d"}, {"9", "5", "", "", ""}, {"(5", "(9", "", "", ""}, {"inf", "-inf", "", "", ""},
		{"-inf", "inf", "LIMIT 0 2", "aa c", "a b"}, {"-inf", "inf", "LIMIT 1 1", "c", "b"}, {"-inf", "inf", "LIMIT 3 9", "b a", "c aa"}, {"-inf", "inf", "LIMIT 3 -9", "b a", "c aa"}, {"-inf", "inf", "LIMIT 0 -1", "aa c d b a", "a b d c aa"}, {"-inf", "inf", "LIMIT 0 0", "", ""}, {"-inf", "inf", "LIMIT 5 1", "", ""}, {"-inf", "inf", "LIMIT 4 1", "a", "aa"}, {"-inf", "inf", "LIMIT -1 2", "", ""}, {"-inf", "inf", "LIMIT -1 -1", "", ""}, {"3", "9", "LIMIT 1 1", "d", "d"}, {"3", "9", "LIMIT 2 5", "b", "c"}, {"-inf", "inf", "LIMIT " + greatest + " " + greatest, "", ""}, {"-inf", "inf", "LIMIT 1 " + greatest, "c d b a", "b d c aa"}, {"-inf", "inf", "LIMIT 1 " + least, "c d b a", "b d c aa"}, {"-inf", "inf", "LIMIT " + least + " 1", "", ""},
	} {
		playAll(t,
			turn{five, fmt.Sprintf("ZRANGE k %s %s BYSCORE %s", c.lo, c.hi, c.limit), bulks(c.want), five}, turn{five, fmt.Sprintf("ZRANGE k %s %s %s WITHSCORES BYSCORE", c.lo, c.hi, c.limit), bulks(scored(five, c.want)), five}, turn{five, fmt.Sprintf("ZRANGE k %s %s REV %s BYSCORE", c.hi, c.lo, c.limit), bulks(c.back), five}, turn{five, fmt.Sprintf("ZRANGE k %s %s BYSCORE %s WITHSCORES REV", c.hi, c.lo, c.limit), bulks(scored(five, c.back)), five},
			turn{five, fmt.Sprintf("ZRANGEBYSCORE k %s %s %s", c.lo, c.hi, c.limit), bulks(c.want), five}, turn{five, fmt.Sprintf("ZRANGEBYSCORE k %s %s WITHSCORES %s", c.lo, c.hi, c.limit), bulks(scored(five, c.want)), five}, turn{five, fmt.Sprintf("ZREVRANGEBYSCORE k %s %s %s", c.hi, c.lo, c.limit), bulks(c.back), five}, turn{five, fmt.Sprintf("ZREVRANGEBYSCORE k %s %s %s WITHSCORES", c.hi, c.lo, c.limit), bulks(scored(five, c.back)), five},
			turn{"", fmt.Sprintf("ZRANGEBYSCORE k %s %s %s", c.lo, c.hi, c.limit), "[]", ""})
	}
}

func TestP14_8_ByMember(t *testing.T) {
	for _, c := range []struct{ lo, hi, limit, want, back string }{
		{"-", "+", "", "aa c d b a", "a b d c aa"}, {"[b", "(c", "", "b", "b"}, {"[b", "[c", "", "c b", "b c"}, {"[a", "(c", "", "aa b a", "a b aa"}, {"(a", "+", "", "aa c d b", "b d c aa"}, {"-", "[aa", "", "aa a", "a aa"}, {"[aa", "[aa", "", "aa", "aa"}, {"(aa", "[aa", "", "", ""}, {"+", "-", "", "", ""}, {"[c", "[b", "", "", ""}, {"[", "+", "", "aa c d b a", "a b d c aa"}, {"(x", "+", "", "", ""},
		{"-", "+", "LIMIT 1 2", "c d", "b d"}, {"[b", "+", "LIMIT 1 1", "d", "d"}, {"[b", "+", "LIMIT 0 -1", "c d b", "b d c"}, {"-", "+", "LIMIT -1 -1", "", ""}, {"-", "+", "LIMIT 4 -1", "a", "aa"}, {"-", "+", "LIMIT 0 0", "", ""},
	} {
		playAll(t,
			turn{five, fmt.Sprintf("ZRANGE k %s %s BYLEX %s", c.lo, c.hi, c.limit), bulks(c.want), five}, turn{five, fmt.Sprintf("ZRANGE k %s %s %s REV BYLEX", c.hi, c.lo, c.limit), bulks(c.back), five},
			turn{five, fmt.Sprintf("ZRANGEBYLEX k %s %s %s", c.lo, c.hi, c.limit), bulks(c.want), five}, turn{five, fmt.Sprintf("ZREVRANGEBYLEX k %s %s %s", c.hi, c.lo, c.limit), bulks(c.back), five}, turn{"", fmt.Sprintf("ZREVRANGEBYLEX k %s %s %s", c.hi, c.lo, c.limit), "[]", ""})
	}
}

// TestP14_8_WrongArguments: all options first, left to right; then what they forbid together; then the ends.
func TestP14_8_WrongArguments(t *testing.T) {
	for _, c := range []row{
		{"x 1", api.BadInt}, {"1 x", api.BadInt}, {"(1 2", api.BadInt}, {"-inf inf", api.BadInt}, {"- +", api.BadInt}, {"1.5 2", api.BadInt}, {"01 2", api.BadInt}, {"9223372036854775808 1", api.BadInt}, {"x 1 REV WITHSCORES", api.BadInt}, {`"" 1`, api.BadInt},
		{"x 1 BYSCORE", api.BadBound}, {"1 x BYSCORE", api.BadBound}, {"1 x BYSCORE REV", api.BadBound}, {"x 1 REV BYSCORE", api.BadBound}, {"- + BYSCORE", api.BadBound}, {"[1 [2 BYSCORE", api.BadBound}, {"1 2 BYLEX", api.BadBound}, {"-inf inf BYLEX", api.BadBound}, {"[a b BYLEX", api.BadBound}, {"a [b BYLEX REV", api.BadBound}, {"x x BYSCORE LIMIT 0 1 WITHSCORES", api.BadBound},
		{"0 1 x", api.BadSyntax}, {`0 1 ""`, api.BadSyntax}, {"0 1 2", api.BadSyntax}, {"0 1 BY SCORE", api.BadSyntax}, {"0 1 WITHSCORE", api.BadSyntax}, {"0 1 REV REV", api.BadSyntax}, {"0 1 BYSCORE BYSCORE", api.BadSyntax}, {"- + BYLEX BYLEX", api.BadSyntax}, {"0 1 BYSCORE BYLEX", api.BadSyntax}, {"- + BYLEX BYSCORE", api.BadSyntax}, {"0 1 WITHSCORES WITHSCORES", api.BadSyntax}, {"0 1 BYSCORE LIMIT 0 1 LIMIT 0 1", api.BadSyntax}, {"0 1 BYSCORE LIMIT 0 1 LIMIT x y", api.BadSyntax}, {"0 1 BYSCORE LIMIT 0 1 x", api.BadSyntax},
		{"0 1 BYSCORE LIMIT", api.BadSyntax}, {"0 1 BYSCORE LIMIT 1", api.BadSyntax}, {"0 1 BYSCORE LIMIT x", api.BadSyntax}, {"0 1 LIMIT", api.BadSyntax}, {"x y LIMIT x", api.BadSyntax},
		{"0 1 LIMIT 0 1", api.BadSyntax}, {"0 1 REV LIMIT 0 -1 WITHSCORES", api.BadSyntax}, {"x 1 LIMIT 0 1", api.BadSyntax}, {"- + BYLEX WITHSCORES", api.BadSyntax}, {"x y WITHSCORES BYLEX", api.BadSyntax}, {"x y WITHSCORES BYLEX REV LIMIT 0 1", api.BadSyntax},
		{"0 1 BYSCORE LIMIT x 1", api.BadInt}, {"0 1 BYSCORE LIMIT 1 x", api.BadInt}, {"0 1 BYSCORE LIMIT 1 x x", api.BadInt}, {"x 1 LIMIT x 1", api.BadInt}, {"0 1 LIMIT 1 1.5", api.BadInt}, {"0 1 LIMIT x 1 BYSCORE BYSCORE", api.BadInt}, {"x y BYLEX WITHSCORES LIMIT 1 x", api.BadInt}, {"0 1 BYSCORE LIMIT 9223372036854775808 1", api.BadInt}, {"0 1 BYSCORE LIMIT LIMIT 0 1", api.BadInt}, {"x 1 BYSCORE LIMIT REV 1", api.BadInt},
		{"x 1 x LIMIT x 1", api.BadSyntax}, {"x 1 REV REV LIMIT x 1", api.BadSyntax},
	} {
		// What is wrong with the arguments comes ahead of the kind.
		for _, key := range []string{"k", "none", "t"} {
			playAll(t, turn{five, "ZRANGE " + key + " " + c.line, c.want, five})
			want := c.want
			if strings.Contains(c.line, "WITHSCORES") {
				continue
			}
			playAll(t, turn{five, "ZRANGESTORE k " + key + " " + c.line, want, five}, turn{five, "ZRANGESTORE t " + key + " " + c.line, want, five})
		}
	}
}

// TestP14_9_OnlyTheirOwnWords: and these read ahead of the two ends.
func TestP14_9_OnlyTheirOwnWords(t *testing.T) {
	for _, c := range []row{
		{"ZREVRANGE k 0 1 REV", api.BadSyntax}, {"ZREVRANGE k 0 1 LIMIT 0 1", api.BadSyntax}, {"ZREVRANGE k 0 1 BYSCORE", api.BadSyntax}, {"ZREVRANGE k 0 1 BYLEX", api.BadSyntax}, {"ZREVRANGE k 0 1 WITHSCORES WITHSCORES", api.BadSyntax}, {"ZREVRANGE k x 1 x", api.BadSyntax}, {"ZREVRANGE k x 1", api.BadInt}, {"ZREVRANGE k 0 x WITHSCORES", api.BadInt}, {"ZREVRANGE k (1 2", api.BadInt},
		{"ZRANGEBYSCORE k 3 5 REV", api.BadSyntax}, {"ZRANGEBYSCORE k 3 5 BYSCORE", api.BadSyntax}, {"ZRANGEBYSCORE k 3 5 BYLEX", api.BadSyntax}, {"ZRANGEBYSCORE k 3 5 LIMIT 0", api.BadSyntax}, {"ZRANGEBYSCORE k x 5 LIMIT 0", api.BadSyntax}, {"ZRANGEBYSCORE k x 5 LIMIT x 1", api.BadInt}, {"ZRANGEBYSCORE k x 5 LIMIT 0 1", api.BadBound}, {"ZRANGEBYSCORE k 3 [5", api.BadBound}, {"ZRANGEBYSCORE k 3 5 WITHSCORES WITHSCORES", api.BadSyntax}, {"ZRANGEBYSCORE k 3 5 LIMIT 0 1 LIMIT 0 1", api.BadSyntax},
		{"ZREVRANGEBYSCORE k 5 3 REV", api.BadSyntax}, {"ZREVRANGEBYSCORE k 5 3 BYSCORE", api.BadSyntax}, {"ZREVRANGEBYSCORE k 5 x WITHSCORES", api.BadBound}, {"ZREVRANGEBYSCORE k x x LIMIT 0 x", api.BadInt}, {"ZREVRANGEBYSCORE k 5 3 LIMIT", api.BadSyntax},
		{"ZRANGEBYLEX k - + WITHSCORES", api.BadSyntax}, {"ZRANGEBYLEX k - + REV", api.BadSyntax}, {"ZRANGEBYLEX k - + BYLEX", api.BadSyntax}, {"ZRANGEBYLEX k x + LIMIT 0 1", api.BadBound}, {"ZRANGEBYLEX k x + LIMIT 0 x", api.BadInt}, {"ZRANGEBYLEX k 0 1", api.BadBound}, {"ZRANGEBYLEX k x + LIMIT 1", api.BadSyntax},
		{"ZREVRANGEBYLEX k + - WITHSCORES", api.BadSyntax}, {"ZREVRANGEBYLEX k + - REV", api.BadSyntax}, {"ZREVRANGEBYLEX k + x", api.BadBound}, {"ZREVRANGEBYLEX k + - LIMIT 0 1 LIMIT 0 1", api.BadSyntax},
	} {
		playAll(t, turn{five, c.line, c.want, five}, turn{"", c.line, c.want, ""}, turn{"", strings.Replace(c.line, " k ", " t ", 1), c.want, ""})
	}
}

func TestP14_10_ZRANGESTORE(t *testing.T) {
	for _, c := range []struct {
		line, left string // behind it under the first key
	}{
		{"0 -1", five}, {"1 2", "3 c 5 d"}, {"0 1 REV", "9 b 10 a"}, {"9 9", ""}, {"(5 +inf BYSCORE", "9 b 10 a"}, {"9 3 BYSCORE REV LIMIT 1 1", "5 d"}, {"-inf inf BYSCORE LIMIT -1 -1", ""}, {"[a (c BYLEX", "2 aa 9 b 10 a"}, {"+ - LIMIT 0 2 BYLEX REV", "9 b 10 a"}, {"- + BYLEX LIMIT 0 2", "2 aa 3 c"},
	} {
		for _, to := range []string{"to", "k", "new"} {
			for _, v := range others(api.ValNone) {
				s := made(t, 4000)
				store(t, s, "k", rankOf(five), deadline)
				store(t, s, "to", v, deadline)
				play(t, s, 0, row{"ZRANGESTORE " + to + " k " + c.line, len(rankOf(c.left).Ranked)})
				if c.left == "" {
					wantGone(t, s, to)
				} else {
					wantValue(t, s, to, rankOf(c.left))
					wantDeadline(t, s, to, 0)
				}
				if to == "new" && c.left == "" {
					wantChanged(t, s)
				} else {
					wantChanged(t, s, to)
				}
				if to != "k" {
					wantValue(t, s, "k", rankOf(five))
					wantDeadline(t, s, "k", deadline)
				}
			}
		}
	}
	playAll(t,
		turn{five, "ZRANGESTORE k none 0 -1", 0, ""}, turn{"", "ZRANGESTORE k none 0 -1", 0, ""}, turn{"", "ZRANGESTORE k z 0 -1", 2, "1 q 2 r"}, turn{five, "ZRANGESTORE k s 0 -1", api.BadKind, five}, turn{five, "ZRANGESTORE k t 0 -1", api.BadKind, five}, turn{five, "ZRANGESTORE t t 0 -1", api.BadKind, five},
		turn{five, "ZRANGESTORE y k 0 1 WITHSCORES", api.BadSyntax, five}, turn{five, "ZRANGESTORE y k x 1 WITHSCORES", api.BadSyntax, five}, turn{five, "ZRANGESTORE y k 0 1 BYSCORE WITHSCORES", api.BadSyntax, five}, turn{five, "ZRANGESTORE y k 0", api.BadArity, five})
}

func TestP14_11_Removing(t *testing.T) {
	playAll(t,
		turn{five, "ZREMRANGEBYRANK k 0 0", 1, "3 c 5 d 9 b 10 a"}, turn{five, "ZREMRANGEBYRANK k -2 -1", 2, "2 aa 3 c 5 d"}, turn{five, "ZREMRANGEBYRANK k 1 3", 3, "2 aa 10 a"}, turn{five, "ZREMRANGEBYRANK k 0 -1", 5, ""}, turn{five, "ZREMRANGEBYRANK k 3 2", 0, five}, turn{five, "ZREMRANGEBYRANK k 5 9", 0, five}, turn{five, "ZREMRANGEBYRANK k " + least + " " + greatest, 5, ""}, turn{"", "ZREMRANGEBYRANK k 0 -1", 0, ""}, turn{five, "ZREMRANGEBYRANK k x 1", api.BadInt, five}, turn{five, "ZREMRANGEBYRANK k 1 x", api.BadInt, five}, turn{five, "ZREMRANGEBYRANK k (1 2", api.BadInt, five}, turn{five, "ZREMRANGEBYRANK k - +", api.BadInt, five},
		turn{five, "ZREMRANGEBYSCORE k (2 5", 2, "2 aa 9 b 10 a"}, turn{five, "ZREMRANGEBYSCORE k -inf (9", 3, "9 b 10 a"}, turn{five, "ZREMRANGEBYSCORE k -inf +inf", 5, ""}, turn{five, "ZREMRANGEBYSCORE k 5 3", 0, five}, turn{five, "ZREMRANGEBYSCORE k 10 inf", 1, "2 aa 3 c 5 d 9 b"}, turn{"", "ZREMRANGEBYSCORE k -inf inf", 0, ""}, turn{five, "ZREMRANGEBYSCORE k x 1", api.BadBound, five}, turn{five, "ZREMRANGEBYSCORE k 1 [2", api.BadBound, five}, turn{"1 a 1 b 1 c 2 d", "ZREMRANGEBYSCORE k 1 1", 3, "2 d"},
		turn{five, "ZREMRANGEBYLEX k [c [c", 1, "2 aa 5 d 9 b 10 a"}, turn{five, "ZREMRANGEBYLEX k [a (c", 3, "3 c 5 d"}, turn{five, "ZREMRANGEBYLEX k - +", 5, ""}, turn{five, "ZREMRANGEBYLEX k + -", 0, five}, turn{five, "ZREMRANGEBYLEX k (a (aa", 0, five}, turn{"", "ZREMRANGEBYLEX k - +", 0, ""}, turn{five, "ZREMRANGEBYLEX k a +", api.BadBound, five}, turn{five, "ZREMRANGEBYLEX k - 1", api.BadBound, five}, turn{`1 "" 2 a`, "ZREMRANGEBYLEX k [ [", 1, "2 a"})
}

// TestP14_19_OneOrder: by place, by score and by member the same order, and what is asked of single members agrees with it.
func TestP14_19_OneOrder(t *testing.T) {
	s := made(t, api.MaxQuota)
	for i := range 120 {
		s.Draw([]byte{byte(i * 37)})
		do(s, 0, fmt.Sprintf("ZADD k %d m%d", i*i%23-11, i*7%120))
		if i%4 == 3 {
			do(s, 0, fmt.Sprintf("ZREM k m%d", i*3%120))
		}
	}
	all := do(s, 0, "ZRANGE k 0 -1 WITHSCORES")
	plain := told(do(s, 0, "ZRANGE k 0 -1"))
	for _, line := range []string{"ZRANGE k -inf +inf BYSCORE", "ZRANGE k - + BYLEX", "ZRANGEBYSCORE k -inf inf", "ZRANGEBYLEX k - +"} {
		if got := told(do(s, 0, line)); got != plain {
			t.Errorf("%s: %s, want %s", line, got, plain)
		}
	}
	n := len(all.List) / 2
	play(t, s, 0, row{"ZCARD k", n}, row{"ZCOUNT k -inf inf", n}, row{"ZLEXCOUNT k - +", n})
	for i := range n {
		member, score := string(all.List[2*i].Text), string(all.List[2*i+1].Text)
		one := quoted([]string{member, score})
		play(t, s, 0, row{"ZRANK k " + member, i}, row{"ZREVRANK k " + member, n - 1 - i}, row{"ZSCORE k " + member, `"` + score + `"`}, row{"ZRANK k " + member + " WITHSCORE", fmt.Sprintf(`[%d "%s"]`, i, score)},
			row{fmt.Sprintf("ZRANGE k %d %d WITHSCORES", i, i), one}, row{fmt.Sprintf("ZRANGE k %d %d WITHSCORES REV", n-1-i, n-1-i), one}, row{fmt.Sprintf("ZRANGE k -inf inf BYSCORE WITHSCORES LIMIT %d 1", i), one}, row{fmt.Sprintf("ZRANGE k [%s [%s BYLEX", member, member), quoted([]string{member})})
		below := 0
		for below < n && string(all.List[2*below+1].Text) != score {
			below++
		}
		play(t, s, 0, row{"ZCOUNT k -inf (" + score, below})
	}
}
