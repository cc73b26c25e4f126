package desk_test

import (
	"fmt"
	"math"
	"testing"

	"larder/api"
	"larder/desk"
	"larder/space"
)

func TestP19_11_WhatMakesAnEntry(t *testing.T) {
	for _, c := range []struct{ line, want string }{
		{"0@5 SET k 2", "3@5 0 SET k 2"}, {"0@5 SET k 1", ""}, {"0@5 sEt k 2", "3@5 0 sEt k 2"}, {"0@5 GET k", ""}, {"0@5 DEL none", ""}, {"0@5 DEL k none", "3@5 0 DEL k none"}, {"0@5 LPUSH k x", ""}, {"0@5 SET k", ""}, {"0@5 NOPE", ""},
		{"0@5 SETNX k 9", ""}, {"0@5 EXPIRE k 5", "3@5 0 EXPIRE k 5"}, {"0@5 PERSIST k", ""}, {"0@5 RENAME k k", ""}, {"0@5 SWAPDB 0 0", ""}, {"0@5 SWAPDB 0 3", "3@5 0 SWAPDB 0 3"}, {"0@5 FLUSHALL", "3@5 0 FLUSHALL"}, {"0@5 INCRBY k 0", ""}, {"0@5 SORT l ALPHA STORE l", ""}, {"0@5 SORT l ALPHA DESC STORE l", "3@5 0 SORT l ALPHA DESC STORE l"}, {"0@5 SORT l ALPHA", ""},
		{"0@5 SET big " + long(3000) + long(1000), ""}, {"0@5 PING", ""}, {"0@5 SELECT 1", ""}, {"0@5 PUBLISH a m", ""}, {"0@5 SAVE", ""}, {"0@5 BLPOP l 0", "3@5 0 LPOP l"}, {"0@5 BLPOP none 0", ""}, {"tick 5", ""}, {"break 0@5", ""}, {"0@5 LMOVE l l LEFT RIGHT", "3@5 0 LMOVE l l LEFT RIGHT"},
	} {
		d := made(t, 256)
		play(t, d, "0@0 SET k 1 => 0: +OK", "0@0 RPUSH l a b => 0: :2")
		d.Entries()
		act(d, c.line)
		play(t, d, "entries => "+c.want, "entries =>")
	}
}

func TestP19_11_NowIsTheClock(t *testing.T) {
	d := made(t, 500)
	play(t, d, "0@9 SET k 1 => 0: +OK", "0@3 SET k 2 => 0: +OK", fmt.Sprint("1@", uint64(math.MaxUint64), " SET k 3 => 1: +OK"), "entries => 1@9 0 SET k 1, 2@9 0 SET k 2, 3@4503599627370496 0 SET k 3")
}

// TestP19_11_WhatPassesAwayMakesNone: not even by a command's own reading.
func TestP19_11_WhatPassesAwayMakesNone(t *testing.T) {
	d := made(t, 500)
	play(t, d, "0@0 SET k 1 PX 5 => 0: +OK", "0@0 SET j 1 PX 6 => 0: +OK", "entries => 1@0 0 SET k 1 PX 5, 2@0 0 SET j 1 PX 6", "tick 5 =>", "0@6 GET j => 0: nil", "entries =>", "saved => false 2")
}

func TestP19_11_Exec(t *testing.T) {
	d := made(t, 500)
	play(t, d, "0@0 MULTI => 0: +OK", "0@0 GET k => 0: +QUEUED", "0@0 SET k 1 => 0: +QUEUED", "1@1 SET j 1 => 1: +OK", "0@2 EXEC => 0: [nil +OK]", "0@2 MULTI => 0: +OK", "0@2 GET k => 0: +QUEUED", "0@2 SET k 1 => 0: +QUEUED", "0@2 EXEC => 0: [\"1\" +OK]", "0@2 MULTI => 0: +OK", "0@2 EXEC => 0: []", "1@3 SET j 2 => 1: +OK", "entries => 1@1 0 SET j 1, 2@2 0 SET k 1, 3@3 0 SET j 2")
	// There and back again within one EXEC: both commands have changed something.
	play(t, d, "0@3 MULTI => 0: +OK", "0@3 SET k 2 => 0: +QUEUED", "0@3 SET k 1 => 0: +QUEUED", "0@3 EXEC => 0: [+OK +OK]", "entries => 4@3 0 SET k 2; 0 SET k 1")
	// What is aborted makes none, nor does the next command take it over.
	play(t, d, "0@3 MULTI => 0: +OK", "0@3 SET k 7 => 0: +QUEUED", "0@3 NOPE => 0: ERR unknown command", "0@3 EXEC => 0: EXECABORT", "0@3 SET k 8 => 0: +OK", "entries => 5@3 0 SET k 8")
}

func TestP19_11_LastNumber(t *testing.T) {
	s, _ := space.New(500, 1)
	d := desk.Adopt(s, math.MaxInt64-2)
	play(t, d, "0@0 SET a 1 => 0: +OK", "0@0 MULTI => 0: +OK", "0@0 SET b 1 => 0: +QUEUED", "0@0 SET c 1 => 0: +QUEUED", "0@0 EXEC => 0: [+OK +OK]", "0@0 SET d 1 => 0: +OK", "saved => false 9223372036854775807",
		"entries => 9223372036854775806@0 0 SET a 1, 9223372036854775807@0 0 SET b 1; 0 SET c 1", "0@0 SET e 1 => 0: +OK", "entries =>", "saved => false 9223372036854775807", "0@0 SAVE => 0: +OK", "saved => true 9223372036854775807", "0@0 GET e => 0: \"1\"", "0@0 WATCH e => 0: +OK", "1@0 SET e 2 => 1: +OK", "0@0 MULTI => 0: +OK", "0@0 EXEC => 0: nil array")
	d = desk.Adopt(s, math.MaxInt64)
	play(t, d, "0@0 SET a 2 => 0: +OK", "entries =>", "saved => false 9223372036854775807")
}

func TestP19_11_OnlyWhatHasComeSince(t *testing.T) {
	d := made(t, 900)
	for i := range 20 {
		var want []api.Entry
		for j := range i {
			play(t, d, fmt.Sprintf("0@0 SET k %d.%d => 0: +OK", i, j))
			want = append(want, api.Entry{Seq: int64(i*(i-1)/2 + j + 1), Group: []api.Act{{Args: words(fmt.Sprintf("SET k %d.%d", i, j))}}})
		}
		if got := d.Entries(); saidEntries(got) != saidEntries(want) {
			t.Errorf("%s, want %s", saidEntries(got), saidEntries(want))
		}
	}
}

// TestP19_11_ArgumentsAsTheyCame: any bytes, and empty ones.
func TestP19_11_ArgumentsAsTheyCame(t *testing.T) {
	d := made(t, 900)
	args := [][]byte{[]byte("set"), {}, []byte("\x00\xff\r\n ")}
	d.Submit(3, 0, args)
	got := d.Entries()
	if len(got) != 1 || len(got[0].Group) != 1 || fmt.Sprintf("%q", got[0].Group[0].Args) != fmt.Sprintf("%q", args) {
		t.Errorf("%v", got)
	}
}
