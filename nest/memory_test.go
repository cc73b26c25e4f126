package nest_test

import (
	"bytes"
	"testing"

	"larder/api"
	"larder/nest"
	"larder/space"
)

// spoil writes over all that a reply holds, and over its spare room.
func spoil(r api.Reply) {
	b := r.Text[:cap(r.Text)]
	for i := range b {
		b[i] = 0xee
	}
	for _, one := range r.List[:cap(r.List)] {
		spoil(one)
	}
	clear(r.List[:cap(r.List)])
}

// every is a command of each sort, on keys that are there.
var every = []string{
	"HSET k a 1 b 2 a 3", "HSET k a xyz", "HSET new a 1", "HSETNX k c 7", "HSETNX k c 8", "HINCRBY k n 5", "HINCRBY k a 1", "HGET k a", "HGET k none", "HGET none a", "HMGET k a none b a", "HMGET none a", "HGETALL k", "HKEYS k", "HVALS k", "HLEN k", "HSTRLEN k a", "HEXISTS k a", "HDEL k c c b", "HDEL none a", "HSCAN k 0", "HSCAN k 0 COUNT 3 MATCH *", "HSCAN none 5",
	"SADD s a b c", "SADD s d", "SADD t x c", "SCARD s", "SMEMBERS s", "SMEMBERS none", "SISMEMBER s a", "SMISMEMBER s a none", "SREM s b b", "SPOP s", "SPOP s 2", "SPOP none", "SPOP none 2", "SMOVE s t d", "SMOVE s s a", "SMOVE none s a", "SUNION s t", "SINTER s t s", "SDIFF s t", "SDIFF s s", "SUNIONSTORE u s t", "SINTERSTORE u s t", "SDIFFSTORE u u t", "SINTERCARD 2 s t LIMIT 1", "SSCAN s 0", "SSCAN s 0 MATCH a* COUNT 2", "SSCAN none 0",
	"HINCRBY k a x", "SINTERCARD 0 k", "HSCAN k x", "HGET s a", "NOSUCH",
}

// fill lays what the commands of every find.
func fill(t *testing.T, s *space.Space) *space.Space {
	t.Helper()
	store(t, s, "k", hashOf("a 1 b 2 c 3 d 4 e 5 f 6 g 7"), 0)
	store(t, s, "s", setOf("a aa b c d e f g h i j k"), 0)
	store(t, s, "t", setOf("c d e x y z"), 0)
	return s
}

func fed(t *testing.T) *space.Space { return fill(t, made(t, 4000)) }

func TestR2_RepliesAreNewMemory(t *testing.T) {
	s, twin := fed(t), fed(t)
	for i := range 3 * len(every) {
		line := every[i*7%len(every)]
		got, again := do(s, uint64(i), line), do(twin, uint64(i), line)
		want := told(again)
		if told(got) != want {
			t.Errorf("%s: %s and %s", line, told(got), want)
		}
		before := picture(s)
		spoil(got)
		if told(again) != want || picture(s) != before || before != picture(twin) {
			t.Errorf("%s: a reply shares memory with something", line)
		}
	}
}

// TestR2_WithinAReply: no two lists of one reply share memory, not even behind their ends.
func TestR2_WithinAReply(t *testing.T) {
	s := fed(t)
	for _, line := range []string{"HGETALL k", "HKEYS k", "HVALS k", "HMGET k a a b b", "HSCAN k 0", "SMEMBERS s", "SSCAN s 0", "SUNION s t", "SINTER s s", "SDIFF s t", "SPOP s 3"} {
		r := do(s, 0, line)
		for i := range r.List {
			var others []string
			for j, one := range r.List {
				if j != i {
					others = append(others, told(one))
				}
			}
			spoil(r.List[i])
			for j, one := range r.List {
				if j == i {
					continue
				}
				if told(one) != others[0] {
					t.Errorf("%s: part %d shares memory with part %d", line, i, j)
				}
				others = others[1:]
			}
		}
	}
}

func TestR2_ArgumentsStayAndAreNotKept(t *testing.T) {
	s, twin := fed(t), fed(t)
	for i := range 3 * len(every) {
		line := every[i*7%len(every)]
		// One block of memory, with spare room behind each argument.
		var given [][]byte
		block := make([]byte, 0, 1000)
		for _, w := range words(line) {
			from := len(block)
			block = append(append(block, w...), "##"...)
			given = append(given, block[from:from+len(w)])
		}
		given = append(given, []byte("spare"))
		was := bytes.Clone(block)
		got := nest.Do(s, uint64(i), 0, given[:len(given)-1])
		if !bytes.Equal(block, was) || string(given[len(given)-1]) != "spare" {
			t.Errorf("%s has written into its arguments: %q", line, block)
		}
		want := told(do(twin, uint64(i), line))
		for j := range block {
			block[j] = '!'
		}
		clear(given)
		if told(got) != want || picture(s) != picture(twin) {
			t.Errorf("%s: arguments are kept", line)
		}
	}
}

// TestR3_EmptyArguments: nil is the empty text.
func TestR3_EmptyArguments(t *testing.T) {
	s := made(t, 4000)
	for _, c := range []struct {
		args [][]byte
		want string
	}{
		{[][]byte{[]byte("HSET"), nil, nil, {}}, "1"},
		{[][]byte{[]byte("HSET"), {}, {}, nil}, "0"},
		{[][]byte{[]byte("HGETALL"), {}}, `["" ""]`},
		{[][]byte{[]byte("HSCAN"), nil, []byte("0"), []byte("MATCH"), nil}, `["0" ["" ""]]`},
		{[][]byte{[]byte("HINCRBY"), nil, nil, []byte("1")}, refusal(api.BadInt)},
		{[][]byte{[]byte("HDEL"), {}, {}, nil}, "1"},
		{[][]byte{[]byte("SADD"), nil, nil, {}}, "1"},
		{[][]byte{[]byte("SMISMEMBER"), {}, nil, {}}, "[1 1]"},
		{[][]byte{[]byte("SUNIONSTORE"), []byte("x"), nil, {}}, "1"},
		{[][]byte{[]byte("SMOVE"), nil, {}, nil}, "1"},
		{[][]byte{[]byte("SDIFF"), []byte("x"), nil}, "[]"},
		{[][]byte{[]byte("SPOP"), nil, {}}, refusal(api.BadInt)},
		{[][]byte{[]byte("SSCAN"), {}, nil}, refusal(api.BadCursor)},
		{[][]byte{nil}, refusal(api.BadName)},
		{[][]byte{}, refusal(api.BadMany)},
	} {
		if got := told(nest.Do(s, 0, 0, c.args)); got != c.want {
			t.Errorf("%q: %s, want %s", c.args, got, c.want)
		}
	}
}

// TestRepliesAreWellMade: no field is set that doesn't belong to a reply's kind.
func TestRepliesAreWellMade(t *testing.T) {
	s := fed(t)
	var check func(r api.Reply) bool
	check = func(r api.Reply) bool {
		for _, one := range r.List {
			if !check(one) {
				return false
			}
		}
		hasText := r.Kind == api.ReplyStatus || r.Kind == api.ReplyError || r.Kind == api.ReplyBulk
		return r.Kind != api.ReplyNone && (hasText || len(r.Text) == 0) && (r.Kind == api.ReplyInt || r.Num == 0) && (r.Kind == api.ReplyArray || len(r.List) == 0)
	}
	for i := range 3 * len(every) {
		line := every[i*7%len(every)]
		if r := do(s, uint64(i), line); !check(r) {
			t.Errorf("%s: %+v", line, r)
		}
	}
}
