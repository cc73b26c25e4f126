package rows_test

import (
	"bytes"
	"testing"

	"larder/api"
	"larder/rows"
	"larder/space"
)

// spoil writes over all that a reply holds, and over its spare room.
func spoil(r api.Reply) {
	b := r.Text[:cap(r.Text)]
	for i := range b {
		b[i] = 0xee
	}
	for _, one := range r.List[:cap(r.List)] {
		spoil(one)
	}
	clear(r.List[:cap(r.List)])
}

// every is a command of each sort, on keys that are there.
var every = []string{
	"LPUSH k a b a", "RPUSH k c d c", "LPUSHX k e", "RPUSHX k f", "LPUSHX none f", "RPUSH n xyz", "LPOP k", "LPOP k 2", "RPOP k", "RPOP k 2", "LPOP none", "RPOP none 2", "LLEN k", "LRANGE k 0 -1", "LRANGE k 9 1", "LINDEX k 0", "LINDEX k 99", "LSET k 0 new", "LSET n -1 new", "LINSERT k BEFORE c z", "LINSERT k AFTER c z", "LINSERT k AFTER none z", "LREM k 1 z", "LREM k -1 a", "LTRIM k 0 20", "LMOVE k n LEFT RIGHT", "LMOVE k k LEFT RIGHT", "LMOVE none k LEFT LEFT", "RPOPLPUSH n k", "LPOS k a", "LPOS k a COUNT 0", "LPOS k none COUNT 1", "LMPOP 2 none k LEFT COUNT 2", "LMPOP 1 n RIGHT", "LMPOP 1 none LEFT", "LPOP k x", "LMPOP 0 k LEFT", "NOSUCH",
}

// fed is a space in which the commands of every find something.
func fed(t *testing.T) *space.Space {
	s := made(t, 4000)
	store(t, s, "k", listOf("a b c d e f g h i j k l m n o p"), 0)
	store(t, s, "n", listOf("1 2 3 4 5"), 0)
	return s
}

func TestR2_RepliesAreNewMemory(t *testing.T) {
	s, twin := fed(t), fed(t)
	for i := range 3 * len(every) {
		line := every[i*7%len(every)]
		got, again := do(s, uint64(i), line), do(twin, uint64(i), line)
		want := told(again)
		if told(got) != want {
			t.Errorf("%s: %s and %s", line, told(got), want)
		}
		before := picture(s)
		spoil(got)
		if told(again) != want || picture(s) != before || before != picture(twin) {
			t.Errorf("%s: a reply shares memory with something", line)
		}
	}
}

// TestR2_WithinAReply: no two lists of one reply share memory, not even behind their ends.
func TestR2_WithinAReply(t *testing.T) {
	s := fed(t)
	for _, line := range []string{"LRANGE k 0 -1", "LPOP k 3", "LMPOP 1 k LEFT COUNT 4", "LPOS n 1 COUNT 0"} {
		r := do(s, 0, line)
		for i := range r.List {
			var others []string
			for j, one := range r.List {
				if j != i {
					others = append(others, told(one))
				}
			}
			spoil(r.List[i])
			for j, one := range r.List {
				if j == i {
					continue
				}
				if told(one) != others[0] {
					t.Errorf("%s: part %d shares memory with part %d", line, i, j)
				}
				others = others[1:]
			}
		}
	}
}

func TestR2_ArgumentsStayAndAreNotKept(t *testing.T) {
	s, twin := fed(t), fed(t)
	for i := range 3 * len(every) {
		line := every[i*7%len(every)]
		// One block of memory, with spare room behind each argument.
		var given [][]byte
		block := make([]byte, 0, 1000)
		for _, w := range words(line) {
			from := len(block)
			block = append(append(block, w...), "##"...)
			given = append(given, block[from:from+len(w)])
		}
		given = append(given, []byte("spare"))
		was := bytes.Clone(block)
		got := rows.Do(s, uint64(i), 0, given[:len(given)-1])
		if !bytes.Equal(block, was) || string(given[len(given)-1]) != "spare" {
			t.Errorf("%s has written into its arguments: %q", line, block)
		}
		want := told(do(twin, uint64(i), line))
		for j := range block {
			block[j] = '!'
		}
		clear(given)
		if told(got) != want || picture(s) != picture(twin) {
			t.Errorf("%s: arguments are kept", line)
		}
	}
}

// TestR3_EmptyArguments: nil is the empty text.
func TestR3_EmptyArguments(t *testing.T) {
	s := made(t, 4000)
	for _, c := range []struct {
		args [][]byte
		want string
	}{
		{[][]byte{[]byte("RPUSH"), nil, nil, {}}, "2"},
		{[][]byte{[]byte("LLEN"), {}}, "2"},
		{[][]byte{[]byte("LPOS"), nil, {}, []byte("COUNT"), []byte("0")}, "[0 1]"},
		{[][]byte{[]byte("LMOVE"), nil, {}, []byte("LEFT"), []byte("RIGHT")}, `""`},
		{[][]byte{[]byte("LREM"), {}, []byte("0"), nil}, "2"},
		{[][]byte{[]byte("LINDEX"), {}, nil}, refusal(api.BadInt)},
		{[][]byte{nil}, refusal(api.BadName)},
		{[][]byte{}, refusal(api.BadMany)},
	} {
		if got := told(rows.Do(s, 0, 0, c.args)); got != c.want {
			t.Errorf("%q: %s, want %s", c.args, got, c.want)
		}
	}
}

// TestRepliesAreWellMade: no field is set that doesn't belong to a reply's kind.
func TestRepliesAreWellMade(t *testing.T) {
	s := fed(t)
	var check func(r api.Reply) bool
	check = func(r api.Reply) bool {
		for _, one := range r.List {
			if !check(one) {
				return false
			}
		}
		hasText := r.Kind == api.ReplyStatus || r.Kind == api.ReplyError || r.Kind == api.ReplyBulk
		return r.Kind != api.ReplyNone && (hasText || len(r.Text) == 0) && (r.Kind == api.ReplyInt || r.Num == 0) && (r.Kind == api.ReplyArray || len(r.List) == 0)
	}
	for i := range 3 * len(every) {
		line := every[i*7%len(every)]
		if r := do(s, uint64(i), line); !check(r) {
			t.Errorf("%s: %+v", line, r)
		}
	}
}
