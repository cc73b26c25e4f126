package text_test

import (
	"bytes"
	"fmt"
	"testing"

	"larder/api"
	"larder/text"
)

// spoil writes over all that a reply holds, and over its spare room.
func spoil(r api.Reply) {
	b := r.Text[:cap(r.Text)]
	for i := range b {
		b[i] = 0xee
	}
	for _, one := range r.List[:cap(r.List)] {
		spoil(one)
	}
	clear(r.List[:cap(r.List)])
}

// every is a command of each sort, on keys that are there.
var every = []string{
	"GET k", "STRLEN k", "SET k v", "SET k w GET", "SET k v NX", "SETNX k w", "SETNX n w", "SETEX k 5 v", "PSETEX k 5 v", "GETSET k w", "GETDEL n", "GETEX k", "GETEX k EX 5", "GETEX k PERSIST", "MGET k k none n", "MSET k v n w k w", "MSETNX o v p v", "APPEND k xyz", "GETRANGE k 0 -1", "GETRANGE k 1 1", "SETRANGE k 5 abc", `SETRANGE k 1 ""`, "INCR c", "DECR c", "INCRBY c 5", "DECRBY c 5", "GETBIT k 5", "SETBIT k 50 1", "BITCOUNT k", "BITCOUNT k 0 5 BIT", "BITPOS k 1", "BITPOS k 0 0 -1 BIT", "BITOP AND d k n", "BITOP NOT k k", "BITFIELD k SET u8 0 65 GET u8 0 OVERFLOW FAIL INCRBY u8 0 999", "BITFIELD k GET u8 0", "INCR k", "SET k v NX XX", "NOSUCH",
}

func TestR2_RepliesAreNewMemory(t *testing.T) {
	s, twin := made(t, 4000), made(t, 4000)
	for i := range 3 * len(every) {
		command := words(every[i*7%len(every)])
		got, again := text.Do(s, uint64(i), 0, args(command...)), text.Do(twin, uint64(i), 0, args(command...))
		want := told(again)
		if told(got) != want {
			t.Errorf("%v: %s and %s", command, told(got), want)
		}
		before := picture(s)
		spoil(got)
		if told(again) != want || picture(s) != before || before != picture(twin) {
			t.Errorf("%v: a reply shares memory with something", command)
		}
	}
	// Within one reply.
	play(t, s, 1000, row{"SET k abc", "OK"})
	r := text.Do(s, 1000, 0, args("MGET", "k", "k", "k"))
	spoil(r.List[1])
	if told(r.List[0]) != `"abc"` || told(r.List[2]) != `"abc"` {
		t.Errorf("MGET: %s", told(r))
	}
}

func TestR2_ArgumentsStayAndAreNotKept(t *testing.T) {
	s := made(t, 4000)
	for i := range 3 * len(every) {
		var command, want [][]byte
		for _, w := range words(every[i*7%len(every)]) {
			b := append(make([]byte, 0, len(w)+64), w...)
			command, want = append(command, b), append(want, bytes.Clone(b[:cap(b)]))
		}
		spare := append(make([][]byte, 0, len(command)+4), command...)
		text.Do(s, uint64(i), 0, spare)
		for j, b := range spare[:cap(spare)] {
			if j >= len(want) && b != nil || j < len(want) && (!bytes.Equal(b[:cap(b)], want[j]) || len(b) != len(command[j])) {
				t.Errorf("%s: argument %d is %q", command[0], j, b)
			}
		}
		before := picture(s)
		for _, b := range spare {
			for j := range b[:cap(b)] {
				b[:cap(b)][j] = 0xee
			}
		}
		if picture(s) != before {
			t.Errorf("%v: an argument is kept", every[i*7%len(every)])
		}
	}
}

// TestR3_NilIsEmpty: a nil argument is the empty text.
func TestR3_NilIsEmpty(t *testing.T) {
	s := made(t, 4000)
	for i, c := range []struct {
		command [][]byte
		want    string
	}{
		{[][]byte{[]byte("SET"), nil, nil}, "OK"},
		{[][]byte{[]byte("GET"), {}}, `""`},
		{[][]byte{[]byte("APPEND"), nil, nil}, "0"},
		{[][]byte{[]byte("INCRBY"), []byte("k"), nil}, refusal(api.BadInt)},
		{[][]byte{[]byte("SET"), nil, nil, nil}, refusal(api.BadSyntax)},
		{[][]byte{[]byte("BITFIELD"), nil, []byte("GET"), nil, nil}, refusal(api.BadField)},
		{[][]byte{nil, nil}, refusal(api.BadName)},
		{[][]byte{}, refusal(api.BadMany)},
		{nil, refusal(api.BadMany)},
	} {
		if got := told(text.Do(s, 0, 0, c.command)); got != c.want {
			t.Errorf("%s: %s, want %s", fmt.Sprint(i), got, c.want)
		}
	}
}

// TestR4_ARepliesFields: what a reply's kind does not use is zero, so that every reply can be written.
func TestR4_ARepliesFields(t *testing.T) {
	s := made(t, 4000)
	var check func(r api.Reply) bool
	check = func(r api.Reply) bool {
		for _, one := range r.List {
			if one.Kind == api.ReplyArray || !check(one) {
				return false
			}
		}
		hasText := r.Kind == api.ReplyBulk || r.Kind == api.ReplyStatus || r.Kind == api.ReplyError
		return r.Kind != api.ReplyNone && (r.Kind == api.ReplyInt || r.Num == 0) && (hasText || len(r.Text) == 0) && (r.Kind == api.ReplyArray || len(r.List) == 0)
	}
	for i := range 3 * len(every) {
		line := every[i*7%len(every)]
		if r := text.Do(s, uint64(i), 0, args(words(line)...)); !check(r) {
			t.Errorf("%s: %+v", line, r)
		}
	}
}
