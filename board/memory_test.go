package board_test

import (
	"bytes"
	"testing"

	"larder/api"
	"larder/board"
	"larder/space"
)

// spoil writes over all that a reply holds, and over its spare room.
func spoil(r api.Reply) {
	b := r.Text[:cap(r.Text)]
	for i := range b {
		b[i] = 0xee
	}
	for _, one := range r.List[:cap(r.List)] {
		spoil(one)
	}
	clear(r.List[:cap(r.List)])
}

// every is a command of each sort, on keys that are there.
var every = []string{
	"DEL t none", "EXISTS t l t none", "TOUCH h none", "TYPE t", "TYPE l", "TYPE h", "TYPE s", "TYPE z", "TYPE none",
	"EXPIRE t 50", "EXPIRE l 60 NX", "PEXPIRE t 70000 XX GT", "PEXPIRE u -1", "EXPIREAT l 40 LT", "EXPIREAT none 40", "PEXPIREAT h 50000", "PEXPIREAT s 3", "TTL l", "TTL h", "TTL none", "PTTL l", "EXPIRETIME l", "PEXPIRETIME l", "PERSIST t", "PERSIST none",
	"RENAME t v", "RENAME v t", "RENAME none t", "RENAMENX h i", "RENAMENX i h", "RENAMENX l h", "COPY l m", "COPY z zz REPLACE", "COPY l l DB 2 REPLACE", "COPY none m", "MOVE h 1", "@1 MOVE h 0", "MOVE none 3", "MOVE l 2",
	"SWAPDB 0 3", "SWAPDB 3 0", "SWAPDB 2 2", "KEYS *", "KEYS [a-m]*", "SCAN 0", "SCAN 0 COUNT 3 MATCH * TYPE list", "SCAN 5 TYPE zset", "DBSIZE", "@2 FLUSHDB", "@3 FLUSHDB",
	"SORT l", "SORT l ALPHA DESC GET # GET w* GET h*->f GET #", "SORT l BY w* LIMIT 1 2", "SORT l BY h*->f ALPHA STORE to", "SORT s ALPHA", "SORT z BY x DESC", "SORT to BY x STORE to", "SORT none STORE to", "SORT t", "SORT s", "SORT l GET # GET # GET none*",
	"TIME", "MEMORY USAGE l", "MEMORY USAGE none", "MEMORY USED", "MEMORY QUOTA", "COMMAND COUNT", "COMMAND GETKEYS mset a 1 b 2 a 3", "COMMAND GETKEYS zunionstore to 2 a a",
	"SET t x", "RPUSH l 7 8", "LRANGE l 0 -1", "HSET h f 1", "SADD s q", "ZADD z 5 q", "MGET t none t",
	"FLUSHDB", "FLUSHALL",
	"EXPIRE t x", "SCAN x", "SWAPDB 0 9", "COPY t t", "SORT l BY", "NOSUCH", "MEMORY x",
}

// stride is by which the commands are gone through in another order.
const stride = 11

// fill lays what the commands of every find.
func fill(t *testing.T, s *space.Space) *space.Space {
	t.Helper()
	store(t, s, "t", textOf("text"), 90)
	store(t, s, "u", textOf("text"), 0)
	store(t, s, "l", listOf("3 1 2 10"), 0)
	store(t, s, "h", hashOf("f 1 g 2"), 0)
	store(t, s, "s", setOf("a b c"), 0)
	store(t, s, "z", rankOf("1 a 2 b 9 c"), 0)
	store(t, s, "w1", textOf("5"), 0)
	store(t, s, "w10", textOf("-5"), 0)
	store(t, s, "h2", hashOf("f x"), 0)
	store(t, s, "to", listOf("b c a"), 0)
	storeIn(t, s, 2, "k", textOf("there"), 0)
	storeIn(t, s, 3, "l", listOf("y"), 500)
	return s
}

func fed(t *testing.T) *space.Space { return fill(t, made(t, 4000)) }

// refed is a space that has been flushed, filled again: so the commands of every find something all the time.
func refed(t *testing.T, s *space.Space) {
	t.Helper()
	if s.Size(0) == 0 {
		fill(t, s)
	}
}

func TestR2_RepliesAreNewMemory(t *testing.T) {
	s, twin := fed(t), fed(t)
	for i := range 3 * len(every) {
		line := every[i*stride%len(every)]
		got, again := do(s, uint64(i), line), do(twin, uint64(i), line)
		want := told(again)
		if told(got) != want {
			t.Errorf("%s: %s and %s", line, told(got), want)
		}
		before := picture(s)
		spoil(got)
		if told(again) != want || picture(s) != before || before != picture(twin) {
			t.Errorf("%s: a reply shares memory with something", line)
		}
		refed(t, s)
		refed(t, twin)
	}
	if len(every)%stride == 0 {
		t.Error("not every command was given")
	}
}

// TestR2_WithinAReply: no two lists of one reply share memory, not even behind their ends.
func TestR2_WithinAReply(t *testing.T) {
	for _, line := range []string{"KEYS *", "SCAN 0 COUNT 100", "SORT l", "SORT l GET # GET # GET h*->f GET w* GET w*", "SORT l BY none* GET h2->f GET # GET #", "SORT s ALPHA GET # GET #", "SORT z BY x", "TIME", "COMMAND GETKEYS del a a b b"} {
		r := do(fed(t), 1234, line)
		for i := range r.List {
			var others []string
			for j, one := range r.List {
				if j != i {
					others = append(others, told(one))
				}
			}
			spoil(r.List[i])
			for j, one := range r.List {
				if j == i {
					continue
				}
				if told(one) != others[0] {
					t.Errorf("%s: part %d shares memory with part %d", line, i, j)
				}
				others = others[1:]
			}
		}
	}
}

func TestR2_ArgumentsStayAndAreNotKept(t *testing.T) {
	s, twin := fed(t), fed(t)
	for i := range 3 * len(every) {
		line := every[i*stride%len(every)]
		if line[0] == '@' {
			continue
		}
		// One block of memory, with spare room behind each argument.
		var given [][]byte
		block := make([]byte, 0, 1000)
		for _, w := range words(line) {
			from := len(block)
			block = append(append(block, w...), "##"...)
			given = append(given, block[from:from+len(w)])
		}
		given = append(given, []byte("spare"))
		was := bytes.Clone(block)
		got := board.Do(s, uint64(i), 0, given[:len(given)-1])
		if !bytes.Equal(block, was) || string(given[len(given)-1]) != "spare" {
			t.Errorf("%s has written into its arguments: %q", line, block)
		}
		board.Check(given[:len(given)-1])
		if !bytes.Equal(block, was) {
			t.Errorf("Check of %s has written into its arguments: %q", line, block)
		}
		want := told(do(twin, uint64(i), line))
		for j := range block {
			block[j] = '!'
		}
		clear(given)
		if told(got) != want || picture(s) != picture(twin) {
			t.Errorf("%s: arguments are kept", line)
		}
		refed(t, s)
		refed(t, twin)
	}
}

// TestR3_EmptyArguments: nil is the empty text.
func TestR3_EmptyArguments(t *testing.T) {
	s := made(t, 4000)
	for _, c := range []struct {
		args [][]byte
		want string
	}{
		{[][]byte{[]byte("SET"), nil, nil}, "OK"},
		{[][]byte{[]byte("EXISTS"), {}, nil}, "2"},
		{[][]byte{[]byte("TYPE"), nil}, "string"},
		{[][]byte{[]byte("RENAME"), nil, {}}, "OK"},
		{[][]byte{[]byte("RENAMENX"), {}, nil}, "0"},
		{[][]byte{[]byte("COPY"), {}, nil}, refusal(api.BadSame)},
		{[][]byte{[]byte("COPY"), nil, []byte("b"), nil}, refusal(api.BadSyntax)},
		{[][]byte{[]byte("COPY"), nil, []byte("b")}, "1"},
		{[][]byte{[]byte("COPY"), nil, []byte("b"), []byte("DB"), nil}, refusal(api.BadInt)},
		{[][]byte{[]byte("EXPIRE"), nil, nil}, refusal(api.BadInt)},
		{[][]byte{[]byte("EXPIRE"), nil, []byte("5"), nil}, refusal(api.BadSyntax)},
		{[][]byte{[]byte("EXPIRE"), nil, []byte("5")}, "1"},
		{[][]byte{[]byte("TTL"), {}}, "5"},
		{[][]byte{[]byte("KEYS"), nil}, `[""]`},
		{[][]byte{[]byte("SCAN"), nil}, refusal(api.BadCursor)},
		{[][]byte{[]byte("SCAN"), []byte("0"), []byte("MATCH"), nil}, `["0" [""]]`},
		{[][]byte{[]byte("SCAN"), []byte("0"), []byte("TYPE"), nil}, refusal(api.BadSyntax)},
		{[][]byte{[]byte("MEMORY"), nil}, refusal(api.BadSyntax)},
		{[][]byte{[]byte("MEMORY"), []byte("USAGE"), nil}, "28"},
		{[][]byte{[]byte("COMMAND"), []byte("GETKEYS"), nil}, refusal(api.BadName)},
		{[][]byte{[]byte("COMMAND"), []byte("GETKEYS"), []byte("DEL"), nil, {}}, `["" ""]`},
		{[][]byte{[]byte("RPUSH"), []byte("l"), nil, {}}, "2"},
		{[][]byte{[]byte("SORT"), []byte("l")}, refusal(api.BadInt)},
		{[][]byte{[]byte("SORT"), []byte("l"), []byte("ALPHA"), []byte("GET"), nil}, "[nil nil]"},
		{[][]byte{[]byte("SORT"), []byte("l"), []byte("BY"), nil}, `["" ""]`},
		{[][]byte{[]byte("SORT"), []byte("l"), []byte("ALPHA"), []byte("GET"), []byte("*")}, `["" ""]`},
		{[][]byte{[]byte("SORT"), []byte("l"), []byte("ALPHA"), []byte("STORE"), nil}, "2"},
		{[][]byte{[]byte("MOVE"), nil, nil}, refusal(api.BadInt)},
		{[][]byte{[]byte("MOVE"), nil, []byte("1")}, "1"},
		{[][]byte{[]byte("DEL"), nil, {}, []byte("l")}, "1"},
		{[][]byte{nil}, refusal(api.BadName)},
		{[][]byte{}, refusal(api.BadMany)},
	} {
		if got := told(board.Do(s, 0, 0, c.args)); got != c.want {
			t.Errorf("%q: %s, want %s", c.args, got, c.want)
		}
	}
}

// TestRepliesAreWellMade: no field is set that doesn't belong to a reply's kind.
func TestRepliesAreWellMade(t *testing.T) {
	s := fed(t)
	var check func(r api.Reply) bool
	check = func(r api.Reply) bool {
		for _, one := range r.List {
			if !check(one) {
				return false
			}
		}
		hasText := r.Kind == api.ReplyStatus || r.Kind == api.ReplyError || r.Kind == api.ReplyBulk
		return r.Kind != api.ReplyNone && (hasText || len(r.Text) == 0) && (r.Kind == api.ReplyInt || r.Num == 0) && (r.Kind == api.ReplyArray || len(r.List) == 0)
	}
	for i := range 3 * len(every) {
		line := every[i*stride%len(every)]
		if r := do(s, uint64(i), line); !check(r) {
			t.Errorf("%s: %+v", line, r)
		}
		refed(t, s)
	}
}
