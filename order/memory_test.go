package order_test

import (
	"bytes"
	"testing"

	"larder/api"
	"larder/order"
	"larder/space"
)

// spoil writes over all that a reply holds, and over its spare room.
func spoil(r api.Reply) {
	b := r.Text[:cap(r.Text)]
	for i := range b {
		b[i] = 0xee
	}
	for _, one := range r.List[:cap(r.List)] {
		spoil(one)
	}
	clear(r.List[:cap(r.List)])
}

// every is a command of each sort, on keys that are there.
var every = []string{
	"ZADD k 1 a 2 b 3 a", "ZADD k NX 5 aa 9 x", "ZADD k XX CH 7 a 8 none", "ZADD k GT 9 b 0 c", "ZADD k LT CH -9 d 50 e", "ZADD k INCR 4 f", "ZADD k XX INCR 4 none", "ZADD new 1 a", "ZADD new XX 1 a", "ZINCRBY k -3 g", "ZINCRBY new 5 m",
	"ZCARD k", "ZCARD none", "ZSCORE k a", "ZSCORE k none", "ZMSCORE k a none b a", "ZMSCORE none a", "ZREM k b b x", "ZREM none a", "ZRANK k a", "ZRANK k a WITHSCORE", "ZRANK k none WITHSCORE", "ZREVRANK k d", "ZREVRANK none d",
	"ZCOUNT k (2 +inf", "ZLEXCOUNT k [a (d", "ZRANGE k 0 -1", "ZRANGE k 1 3 REV WITHSCORES", "ZRANGE k -inf 5 BYSCORE LIMIT 1 2 WITHSCORES", "ZRANGE k [f - BYLEX REV", "ZRANGE none 0 -1", "ZREVRANGE k 0 2 WITHSCORES", "ZRANGEBYSCORE k 1 (4", "ZREVRANGEBYSCORE k 9 1 LIMIT 0 -1 WITHSCORES", "ZRANGEBYLEX k - + LIMIT 2 3", "ZREVRANGEBYLEX k + (b",
	"ZRANGESTORE u k 1 3", "ZRANGESTORE u k 2 6 BYSCORE REV LIMIT 1 9", "ZREMRANGEBYRANK u 0 0", "ZREMRANGEBYRANK k -1 -1", "ZREMRANGEBYSCORE k (6 7", "ZREMRANGEBYLEX k [c [c",
	"ZPOPMIN k", "ZPOPMIN k 2", "ZPOPMAX k", "ZPOPMAX k 2", "ZPOPMIN none 2", "ZMPOP 3 none k l MIN", "ZMPOP 2 none l MAX COUNT 2", "ZMPOP 1 none MIN",
	"ZUNION 3 k l s", "ZUNION 3 k l k WEIGHTS 2 -1 3 WITHSCORES", "ZINTER 2 k l", "ZINTER 2 k l AGGREGATE MIN WITHSCORES", "ZDIFF 2 k l WITHSCORES", "ZDIFF 2 k k", "ZUNIONSTORE v 2 k l AGGREGATE MAX", "ZINTERSTORE v 3 l k l", "ZDIFFSTORE v 2 v s", "ZDIFFSTORE w 2 k l", "ZINTERCARD 2 k l LIMIT 1",
	"ZSCAN k 0", "ZSCAN k 0 COUNT 3 MATCH *", "ZSCAN none 5",
	"ZADD k x a", "ZUNION 0 k", "ZSCAN k x", "ZSCORE s a", "ZCOUNT k 1 x", "NOSUCH",
}

// stride is by which the commands are gone through in another order.
const stride = 11

// fill lays what the commands of every find.
func fill(t *testing.T, s *space.Space) *space.Space {
	t.Helper()
	store(t, s, "k", rankOf("1 a 2 b 3 c 4 d 5 e 6 f 7 g 7 h 7 i"), 0)
	store(t, s, "l", rankOf("-5 c 0 x 2 d 2 y 9 e"), 0)
	store(t, s, "s", setOf("a d q"), 0)
	return s
}

func fed(t *testing.T) *space.Space { return fill(t, made(t, 4000)) }

func TestR2_RepliesAreNewMemory(t *testing.T) {
	s, twin := fed(t), fed(t)
	for i := range 3 * len(every) {
		line := every[i*stride%len(every)]
		got, again := do(s, uint64(i), line), do(twin, uint64(i), line)
		want := told(again)
		if told(got) != want {
			t.Errorf("%s: %s and %s", line, told(got), want)
		}
		before := picture(s)
		spoil(got)
		if told(again) != want || picture(s) != before || before != picture(twin) {
			t.Errorf("%s: a reply shares memory with something", line)
		}
	}
	if len(every)%stride == 0 {
		t.Error("not every command was given")
	}
}

// TestR2_WithinAReply: no two lists of one reply share memory, not even behind their ends.
func TestR2_WithinAReply(t *testing.T) {
	for _, line := range []string{"ZMSCORE k a a b b", "ZRANK k a WITHSCORE", "ZRANGE k 0 -1", "ZRANGE k 0 -1 WITHSCORES REV", "ZRANGE k 0 9 BYSCORE LIMIT 1 3", "ZPOPMIN k 3", "ZMPOP 1 k MAX COUNT 3", "ZUNION 2 k l WITHSCORES", "ZDIFF 2 k l", "ZSCAN k 0"} {
		r := do(fed(t), 0, line)
		for i := range r.List {
			var others []string
			for j, one := range r.List {
				if j != i {
					others = append(others, told(one))
				}
			}
			spoil(r.List[i])
			for j, one := range r.List {
				if j == i {
					continue
				}
				if told(one) != others[0] {
					t.Errorf("%s: part %d shares memory with part %d", line, i, j)
				}
				others = others[1:]
			}
		}
	}
	r := do(fed(t), 0, "ZMPOP 1 k MAX COUNT 3").List[1]
	spoil(r.List[1])
	if got := told(r.List[0]) + told(r.List[2]); got != `["i" "7"]["g" "7"]` {
		t.Errorf("pairs of a pop share memory: %s", got)
	}
}

func TestR2_ArgumentsStayAndAreNotKept(t *testing.T) {
	s, twin := fed(t), fed(t)
	for i := range 3 * len(every) {
		line := every[i*stride%len(every)]
		// One block of memory, with spare room behind each argument.
		var given [][]byte
		block := make([]byte, 0, 1000)
		for _, w := range words(line) {
			from := len(block)
			block = append(append(block, w...), "##"...)
			given = append(given, block[from:from+len(w)])
		}
		given = append(given, []byte("spare"))
		was := bytes.Clone(block)
		got := order.Do(s, uint64(i), 0, given[:len(given)-1])
		if !bytes.Equal(block, was) || string(given[len(given)-1]) != "spare" {
			t.Errorf("%s has written into its arguments: %q", line, block)
		}
		want := told(do(twin, uint64(i), line))
		for j := range block {
			block[j] = '!'
		}
		clear(given)
		if told(got) != want || picture(s) != picture(twin) {
			t.Errorf("%s: arguments are kept", line)
		}
	}
}

// TestR3_EmptyArguments: nil is the empty text.
func TestR3_EmptyArguments(t *testing.T) {
	s := made(t, 4000)
	for _, c := range []struct {
		args [][]byte
		want string
	}{
		{[][]byte{[]byte("ZADD"), nil, []byte("1"), nil}, "1"},
		{[][]byte{[]byte("ZADD"), {}, []byte("2"), {}}, "0"},
		{[][]byte{[]byte("ZADD"), {}, nil, {}}, refusal(api.BadInt)},
		{[][]byte{[]byte("ZRANGE"), {}, []byte("0"), []byte("0"), []byte("WITHSCORES")}, `["" "2"]`},
		{[][]byte{[]byte("ZRANGE"), {}, []byte("0"), []byte("0"), nil}, refusal(api.BadSyntax)},
		{[][]byte{[]byte("ZRANGE"), {}, nil, []byte("0")}, refusal(api.BadInt)},
		{[][]byte{[]byte("ZCOUNT"), nil, nil, []byte("0")}, refusal(api.BadBound)},
		{[][]byte{[]byte("ZLEXCOUNT"), nil, []byte("-"), nil}, refusal(api.BadBound)},
		{[][]byte{[]byte("ZLEXCOUNT"), nil, []byte("["), []byte("[")}, "1"},
		{[][]byte{[]byte("ZSCAN"), nil, []byte("0"), []byte("MATCH"), nil}, `["0" ["" "2"]]`},
		{[][]byte{[]byte("ZMSCORE"), {}, nil, {}}, `["2" "2"]`},
		{[][]byte{[]byte("ZUNIONSTORE"), []byte("x"), []byte("2"), nil, {}}, "1"},
		{[][]byte{[]byte("ZINCRBY"), []byte("x"), []byte("1"), nil}, `"5"`},
		{[][]byte{[]byte("ZDIFF"), []byte("2"), []byte("x"), nil}, "[]"},
		{[][]byte{[]byte("ZMPOP"), nil, nil, []byte("MIN")}, refusal(api.BadInt)},
		{[][]byte{[]byte("ZPOPMIN"), nil, {}}, refusal(api.BadInt)},
		{[][]byte{[]byte("ZREM"), {}, {}, nil}, "1"},
		{[][]byte{[]byte("ZSCAN"), {}, nil}, refusal(api.BadCursor)},
		{[][]byte{nil}, refusal(api.BadName)},
		{[][]byte{}, refusal(api.BadMany)},
	} {
		if got := told(order.Do(s, 0, 0, c.args)); got != c.want {
			t.Errorf("%q: %s, want %s", c.args, got, c.want)
		}
	}
}

// TestRepliesAreWellMade: no field is set that doesn't belong to a reply's kind.
func TestRepliesAreWellMade(t *testing.T) {
	s := fed(t)
	var check func(r api.Reply) bool
	check = func(r api.Reply) bool {
		for _, one := range r.List {
			if !check(one) {
				return false
			}
		}
		hasText := r.Kind == api.ReplyStatus || r.Kind == api.ReplyError || r.Kind == api.ReplyBulk
		return r.Kind != api.ReplyNone && (hasText || len(r.Text) == 0) && (r.Kind == api.ReplyInt || r.Num == 0) && (r.Kind == api.ReplyArray || len(r.List) == 0)
	}
	for i := range 3 * len(every) {
		line := every[i*stride%len(every)]
		if r := do(s, uint64(i), line); !check(r) {
			t.Errorf("%s: %+v", line, r)
		}
	}
}
