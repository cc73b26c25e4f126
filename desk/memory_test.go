package desk_test

import (
	"bytes"
	"cmp"
	"fmt"
	"slices"
	"strings"
	"testing"
	"unsafe"

	"larder/api"
	"larder/desk"
)

// stretch is a piece of memory that an answer takes, its spare room too.
type stretch struct{ from, to uintptr }

func stretchOf[T any](list []T) []stretch {
	if cap(list) == 0 {
		return nil
	}
	from := uintptr(unsafe.Pointer(unsafe.SliceData(list)))
	var one T
	return []stretch{{from, from + uintptr(cap(list))*unsafe.Sizeof(one)}}
}

func stretchesOfReply(r api.Reply) []stretch {
	all := append(stretchOf(r.Text), stretchOf(r.List)...)
	for _, one := range r.List {
		all = append(all, stretchesOfReply(one)...)
	}
	return all
}

func stretchesOfOuts(outs []api.Out) []stretch {
	all := stretchOf(outs)
	for _, o := range outs {
		all = append(all, stretchesOfReply(o.Reply)...)
	}
	return all
}

func stretchesOfArgs(args [][]byte) []stretch {
	all := stretchOf(args)
	for _, a := range args {
		all = append(all, stretchOf(a)...)
	}
	return all
}

func stretchesOfEntries(entries []api.Entry) []stretch {
	all := stretchOf(entries)
	for _, e := range entries {
		all = append(all, stretchOf(e.Group)...)
		for _, a := range e.Group {
			all = append(all, stretchesOfArgs(a.Args)...)
		}
	}
	return all
}

// wantApart asks that no two stretches meet.
func wantApart(t *testing.T, all []stretch) {
	t.Helper()
	slices.SortFunc(all, func(a, b stretch) int { return cmp.Compare(a.from, b.from) })
	for i := 1; i < len(all); i++ {
		if all[i].from < all[i-1].to {
			t.Fatalf("memory is shared: %v and %v", all[i-1], all[i])
		}
	}
}

// spoil writes over bytes and their spare room.
func spoil(b []byte) {
	b = b[:cap(b)]
	for i := range b {
		b[i] = 0xee
	}
}

func spoilReply(r api.Reply) {
	spoil(r.Text)
	for _, one := range r.List {
		spoilReply(one)
	}
	clear(r.List[:cap(r.List)])
}

func spoilArgs(args [][]byte) {
	for _, a := range args {
		spoil(a)
	}
	clear(args[:cap(args)])
}

func spoilOuts(outs []api.Out) {
	for _, o := range outs {
		spoilReply(o.Reply)
	}
	clear(outs[:cap(outs)])
}

func spoilEntries(entries []api.Entry) {
	for _, e := range entries {
		for _, a := range e.Group {
			spoilArgs(a.Args)
		}
		clear(e.Group[:cap(e.Group)])
	}
	clear(entries[:cap(entries)])
}

// kept is what a desk was handed and has answered, so that none of its memory is given out anew.
type kept struct {
	args    [][][]byte
	outs    [][]api.Out
	entries [][]api.Entry
}

// give does to a desk what a script's line says, and keeps what it was handed and answered.
func (k *kept) give(d *desk.Desk, line string) string {
	what, rest, _ := strings.Cut(line, " ")
	switch what {
	case "tick", "break", "leave", "saved":
		return act(d, line)
	case "entries":
		entries := d.Entries()
		k.entries = append(k.entries, entries)
		return saidEntries(entries)
	}
	var conn int
	var now uint64
	fmt.Sscanf(what, "%d@%d", &conn, &now)
	args := words(rest)
	outs := d.Submit(conn, now, args)
	k.args, k.outs = append(k.args, args), append(k.outs, outs)
	return saidOuts(outs)
}

func TestR2_AnswersAreNewMemory(t *testing.T) {
	for seed := range int64(40) {
		d := made(t, 4000)
		k := &kept{}
		for _, line := range drawScript(seed+3000, 200) {
			k.give(d, line)
		}
		k.give(d, "entries")
		var all []stretch
		for _, args := range k.args {
			all = append(all, stretchesOfArgs(args)...)
		}
		for _, outs := range k.outs {
			all = append(all, stretchesOfOuts(outs)...)
		}
		for _, entries := range k.entries {
			all = append(all, stretchesOfEntries(entries)...)
		}
		wantApart(t, all)
	}
}

// TestR2_NothingIsKept: what is handed in and what has been answered may be written over at once.
func TestR2_NothingIsKept(t *testing.T) {
	for seed := range int64(80) {
		d, twin := made(t, 4000), made(t, 4000)
		for i, line := range drawScript(seed+4000, 200) {
			k := &kept{}
			if got, want := k.give(d, line), act(twin, line); got != want {
				t.Fatalf("seed %d, step %d: %s: %s, want %s", seed, i, line, got, want)
			}
			for _, args := range k.args {
				spoilArgs(args)
			}
			for _, outs := range k.outs {
				spoilOuts(outs)
			}
			for _, entries := range k.entries {
				spoilEntries(entries)
			}
		}
		if picture(d.Space()) != picture(twin.Space()) {
			t.Fatalf("seed %d: the spaces differ", seed)
		}
	}
}

func TestR2_ArgumentsAreNotChanged(t *testing.T) {
	d := made(t, 4000)
	for _, line := range []string{"set k v", "BLMOVE q r left Right 0", "PING", "MULTI", "rpush q e", "EXEC", "SUBSCRIBE b a", "UNSUBSCRIBE", "PUBLISH a b", "WATCH c b a", "PUBSUB NUMSUB b a", "BZPOPMAX b a 0", "LPUSH q z"} {
		for conn := range api.MaxConns {
			args := append(words(line), []byte("spare"))
			d.Submit(conn, 0, args[:len(args)-1])
			if got := bytesOf(args); got != line+" spare" {
				t.Errorf("%s is %s", line, got)
			}
		}
	}
}

// TestR3_NilAndEmpty: arguments that are nil are empty ones, wherever they go.
func TestR3_NilAndEmpty(t *testing.T) {
	d, twin := made(t, 4000), made(t, 4000)
	for _, args := range [][][]byte{
		{[]byte("SET"), nil, nil}, {[]byte("MULTI")}, {[]byte("APPEND"), nil, []byte("x")}, {[]byte("EXEC")}, {[]byte("WATCH"), nil}, {nil}, {[]byte("BLPOP"), nil, nil}, {[]byte("DEL"), nil}, {[]byte("BLPOP"), nil, []byte("0")}, {[]byte("ECHO"), nil}, {[]byte("SUBSCRIBE"), nil},
	} {
		var empty [][]byte
		for _, a := range args {
			empty = append(empty, append([]byte{}, a...))
		}
		if got, want := saidOuts(d.Submit(0, 0, args)), saidOuts(twin.Submit(0, 0, empty)); got != want {
			t.Errorf("%q: %s, want %s", args, got, want)
		}
	}
	if got, want := saidOuts(d.Submit(1, 0, [][]byte{[]byte("RPUSH"), nil, nil})), saidOuts(twin.Submit(1, 0, [][]byte{[]byte("RPUSH"), {}, {}})); got != want || !strings.Contains(got, "subscribe") {
		t.Errorf("%s, want %s", got, want)
	}
	if got, want := saidEntries(d.Entries()), saidEntries(twin.Entries()); got != want {
		t.Errorf("%s, want %s", got, want)
	}
	if a, b := saidOuts(d.Submit(2, 0, [][]byte{})), saidOuts(twin.Submit(2, 0, nil)); a != b {
		t.Errorf("%s and %s", a, b)
	}
}

// TestR2_PiecesOfALongerText: arguments may lie one behind the other in one text.
func TestR2_PiecesOfALongerText(t *testing.T) {
	d := made(t, 4000)
	stream := []byte("WATCHkSUBSCRIBEcBLPOPq0")
	d.Submit(0, 0, [][]byte{stream[0:5], stream[5:6]})
	d.Submit(1, 0, [][]byte{stream[6:15], stream[15:16]})
	d.Submit(2, 0, [][]byte{stream[16:21], stream[21:22], stream[22:23]})
	if !bytes.Equal(stream, []byte("WATCHkSUBSCRIBEcBLPOPq0")) {
		t.Errorf("%s", stream)
	}
	spoil(stream)
	play(t, d, "3@0 SET k 1 => 3: +OK", "0@0 MULTI => 0: +OK", "0@0 EXEC => 0: nil array", "3@0 PUBLISH c m => 1: [\"message\" \"c\" \"m\"], 3: :1", "3@0 RPUSH q e => 3: :1, 2: [\"q\" \"e\"]")
}
