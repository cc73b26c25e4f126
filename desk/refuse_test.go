package desk_test

import (
	"fmt"
	"strings"
	"testing"

	"larder/api"
	"larder/board"
	"larder/desk"
)

// own are the desk's commands: the least and the greatest number of arguments, the name with them (0: as many as there may be).
var own = []struct {
	name        string
	least, most int
}{
	{"PING", 1, 2}, {"ECHO", 2, 2}, {"SELECT", 2, 2}, {"QUIT", 1, 1}, {"RESET", 1, 1}, {"SAVE", 1, 1}, {"MULTI", 1, 1}, {"DISCARD", 1, 1}, {"EXEC", 1, 1},
	{"WATCH", 2, 0}, {"UNWATCH", 1, 1}, {"SUBSCRIBE", 2, 0}, {"PSUBSCRIBE", 2, 0}, {"UNSUBSCRIBE", 1, 0}, {"PUNSUBSCRIBE", 1, 0}, {"PUBLISH", 3, 3}, {"PUBSUB", 2, 0},
	{"BLPOP", 3, 0}, {"BRPOP", 3, 0}, {"BLMOVE", 6, 6}, {"BZPOPMIN", 3, 0}, {"BZPOPMAX", 3, 0},
}

const wrongNumber = "ERR wrong number of arguments"

// times is a line of a name and so many arguments in all.
func times(name string, n int) string { return name + strings.Repeat(" 0", n-1) }

func TestP19_6_ManyAndLong(t *testing.T) {
	for _, state := range []string{"", "MULTI", "SUBSCRIBE a"} {
		d := made(t, 500)
		act(d, "0@0 "+state)
		wantOuts(t, d, 0, nil, "0: ERR too many")
		wantOuts(t, d, 0, make([][]byte, 129), "0: ERR too many")
		wantOuts(t, d, 0, append(make([][]byte, 128), []byte(long(4097))), "0: ERR too many")
		wantOuts(t, d, 0, [][]byte{[]byte(long(4097))}, "0: ERR too long")
		wantOuts(t, d, 0, [][]byte{[]byte("NOPE"), nil, []byte(long(4097))}, "0: ERR too long")
		wantOuts(t, d, 0, append(make([][]byte, 127), []byte(long(4097))), "0: ERR too long")
		wantOuts(t, d, 0, make([][]byte, 128), "0: ERR unknown command")
		wantOuts(t, d, 0, [][]byte{[]byte(long(4096))}, "0: ERR unknown command")
	}
	d := made(t, 500)
	wantOuts(t, d, 0, [][]byte{[]byte("ECHO"), []byte(long(4096))}, fmt.Sprintf("0: %q", long(4096)))
	full := append(words("DEL"), make([][]byte, 127)...)
	wantOuts(t, d, 0, full, "0: :0")
}

func TestP19_6_Names(t *testing.T) {
	for _, state := range []string{"", "MULTI", "SUBSCRIBE a"} {
		d := made(t, 500)
		act(d, "0@0 "+state)
		for _, name := range []string{"NOPE", "GETT", "G", "PINGG", "PIN", "BLMPOP", "AUTH", "message", "later"} {
			play(t, d, "0@0 "+name+" => 0: ERR unknown command", "0@0 "+name+" a b c => 0: ERR unknown command")
		}
		wantOuts(t, d, 0, [][]byte{{}}, "0: ERR unknown command")
		wantOuts(t, d, 0, [][]byte{[]byte("PING\x00")}, "0: ERR unknown command")
		wantOuts(t, d, 0, [][]byte{[]byte("P\xc4\xb0NG")}, "0: ERR unknown command")
	}
}

func TestP19_6_NumbersOfArguments(t *testing.T) {
	for _, state := range []string{"", "MULTI", "SUBSCRIBE a"} {
		for _, c := range own {
			for n := 1; n <= api.MaxArgs; n++ {
				d := made(t, 500)
				act(d, "0@0 "+state)
				got := act(d, "0@0 "+times(c.name, n))
				fits := n >= c.least && (n <= c.most || c.most == 0)
				if c.name == "PUBSUB" {
					// Its own row refuses more.
					fits = n != 1
				}
				if fits == (got == "0: "+wrongNumber) {
					t.Errorf("%s: %s with %d: %s", state, c.name, n, got)
				}
			}
		}
		for _, row := range board.Commands() {
			for n := 1; n <= 7; n++ {
				d := made(t, 500)
				act(d, "0@0 "+state)
				fits := n == row.Arity || row.Arity < 0 && n >= -row.Arity
				got := act(d, "0@0 "+times(row.Name, n))
				if state != "" && fits == (got == "0: "+wrongNumber) || !fits && got != "0: "+wrongNumber {
					t.Errorf("%s: %s with %d: %s", state, row.Name, n, got)
				}
			}
		}
	}
}

func TestP19_6_Folded(t *testing.T) {
	d := made(t, 500)
	play(t, d, "0@0 pinG => 0: +PONG", "0@0 eChO a => 0: \"a\"", "0@0 multi => 0: +OK", "0@0 set k 1 => 0: +QUEUED", "0@0 Exec => 0: [+OK]", "0@0 gEt k => 0: \"1\"", "1@0 bLpOp q 0 =>", "0@0 rpush q e => 0: :1, 1: [\"q\" \"e\"]", "0@0 pubsub numsub => 0: []", "0@0 pubsub Channels => 0: []", "0@0 pubsub numPat => 0: :0", "1@0 subscribe A => 1: [\"subscribe\" \"A\" :1]", "0@0 publish a m => 0: :0", "1@0 quit => 1: +OK")
}

func TestP19_6_WhileListening(t *testing.T) {
	may := map[string]int{"SUBSCRIBE": 1, "UNSUBSCRIBE": 1, "PSUBSCRIBE": 1, "PUNSUBSCRIBE": 1, "PING": 1, "QUIT": 1, "RESET": 1}
	for _, state := range []string{"SUBSCRIBE a", "PSUBSCRIBE a*"} {
		for _, c := range own {
			d := made(t, 500)
			act(d, "0@0 "+state)
			got := act(d, "0@0 "+times(c.name, c.least))
			if (may[c.name] == 0) != (got == "0: ERR not now") {
				t.Errorf("%s: %s", c.name, got)
			}
		}
		for _, row := range board.Commands() {
			d := made(t, 500)
			act(d, "0@0 "+state)
			play(t, d, "0@0 "+times(row.Name, max(row.Arity, -row.Arity))+" => 0: ERR not now")
		}
	}
	d := made(t, 500)
	play(t, d, "0@0 SUBSCRIBE a => 0: [\"subscribe\" \"a\" :1]", "0@0 SET k 1 => 0: ERR not now", "0@0 MULTI => 0: ERR not now", "0@0 EXEC => 0: ERR not now", "0@0 WATCH k => 0: ERR not now", "0@0 SAVE => 0: ERR not now", "0@0 BLPOP q 0 => 0: ERR not now", "0@0 SELECT 2 => 0: ERR not now",
		"0@0 PING => 0: +PONG", "0@0 PING a => 0: \"a\"", "0@0 UNSUBSCRIBE => 0: [\"unsubscribe\" \"a\" :0]", "0@0 GET k => 0: nil", "0@0 EXEC => 0: ERR EXEC without MULTI", "saved => false 0", "entries =>")
}

func TestP19_6_WhileATransactionIsOpen(t *testing.T) {
	atOnce := map[string]string{"MULTI": "ERR MULTI inside MULTI", "EXEC": "[]", "DISCARD": "+OK", "WATCH": "ERR WATCH inside MULTI", "QUIT": "+OK", "RESET": "+RESET"}
	never := map[string]int{"SUBSCRIBE": 1, "UNSUBSCRIBE": 1, "PSUBSCRIBE": 1, "PUNSUBSCRIBE": 1, "SAVE": 1}
	for _, c := range own {
		d := made(t, 500)
		act(d, "0@0 MULTI")
		want := "+QUEUED"
		if w, is := atOnce[c.name]; is {
			want = w
		}
		if never[c.name] > 0 {
			want = "ERR not now"
		}
		play(t, d, "0@0 "+times(c.name, c.least)+" => 0: "+want)
	}
	for _, row := range board.Commands() {
		d := made(t, 500)
		act(d, "0@0 MULTI")
		play(t, d, "0@0 "+times(row.Name, max(row.Arity, -row.Arity))+" => 0: +QUEUED")
		if d.Space().Cost() != 0 || len(d.Entries()) != 0 {
			t.Errorf("%s was carried out", row.Name)
		}
	}
}

// filled is a desk whose connection 0 has so many commands queued.
func filled(t *testing.T, n int) *desk.Desk {
	t.Helper()
	d := made(t, 500)
	play(t, d, "0@0 MULTI => 0: +OK")
	for range n {
		play(t, d, "0@0 INCR n => 0: +QUEUED")
	}
	return d
}

func TestP19_6_MaxQueue(t *testing.T) {
	play(t, filled(t, 63), "0@0 GET n => 0: +QUEUED", "0@0 GET n => 0: ERR too many", "0@0 EXEC => 0: EXECABORT", "0@0 GET n => 0: nil")
	d := filled(t, 64)
	play(t, d, "0@0 EXEC => 0: ["+strings.TrimSuffix(numbers(64), " ")+"]", "0@0 GET n => 0: \"64\"")
	entries := d.Entries()
	if len(entries) != 1 || len(entries[0].Group) != 64 {
		t.Errorf("%s", saidEntries(entries))
	}
	// What is asked ahead of the number of queued commands, and what is not queued.
	play(t, filled(t, 64), "0@0 SAVE => 0: ERR not now", "0@0 SUBSCRIBE a => 0: ERR not now", "0@0 NOPE => 0: ERR unknown command", "0@0 GET => 0: "+wrongNumber, "0@0 PING => 0: ERR too many", "0@0 MULTI => 0: ERR MULTI inside MULTI", "0@0 WATCH k => 0: ERR WATCH inside MULTI", "0@0 RESET => 0: +RESET")
	play(t, filled(t, 64), "0@0 WATCH k => 0: ERR WATCH inside MULTI", "0@0 MULTI => 0: ERR MULTI inside MULTI", "0@0 EXEC => 0: ["+strings.TrimSuffix(numbers(64), " ")+"]")
	// Of each connection for itself, and anew for each transaction.
	d = filled(t, 64)
	play(t, d, "1@0 MULTI => 1: +OK", "1@0 PING => 1: +QUEUED", "0@0 DISCARD => 0: +OK", "0@0 MULTI => 0: +OK", "0@0 PING => 0: +QUEUED")
}

func numbers(n int) string {
	var b strings.Builder
	for i := range n {
		fmt.Fprintf(&b, ":%d ", i+1)
	}
	return b.String()
}

func TestP19_6_WhatSpoils(t *testing.T) {
	spoiling := [][][]byte{
		nil, make([][]byte, 129), {[]byte("ECHO"), []byte(long(4097))}, words("NOPE"), words("GET"), words("PING a b"), words("EXEC x"), words("MULTI x"), words("DISCARD x"), words("WATCH"), words("QUIT x"), words("RESET x"), words("BLPOP q"), words("UNWATCH x"),
		words("SUBSCRIBE a"), words("UNSUBSCRIBE"), words("PSUBSCRIBE a"), words("PUNSUBSCRIBE"), words("SAVE"), words("SUBSCRIBE"),
	}
	for _, args := range spoiling {
		d := made(t, 500)
		// Outside a transaction it spoils nothing.
		act(d, "0@0 UNSUBSCRIBE")
		if name := string(append(args, []byte{})[0]); !strings.Contains(name, "SUBSCRIBE") {
			d.Submit(0, 0, args)
		}
		play(t, d, "0@0 MULTI => 0: +OK", "0@0 SET k 1 => 0: +QUEUED", "0@0 EXEC => 0: [+OK]")
		play(t, d, "0@0 MULTI => 0: +OK", "0@0 SET k 2 => 0: +QUEUED")
		d.Submit(0, 0, args)
		// Another one's is not.
		d.Submit(1, 0, args)
		play(t, d, "0@0 SET k 3 => 0: +QUEUED", "0@0 EXEC => 0: EXECABORT", "0@0 GET k => 0: \"1\"", "0@0 EXEC => 0: ERR EXEC without MULTI", "0@0 MULTI => 0: +OK", "0@0 EXEC => 0: []")
		play(t, d, "0@0 MULTI => 0: +OK")
		d.Submit(0, 0, args)
		play(t, d, "0@0 DISCARD => 0: +OK", "0@0 MULTI => 0: +OK", "0@0 EXEC => 0: []")
	}
	for _, line := range []string{"MULTI", "WATCH k", "watch a b c", "GET k", "SELECT 9", "SELECT x", "BLPOP q x", "BLMOVE a b UP LEFT 0", "PUBSUB NOPE", "PUBSUB NUMPAT x", "MSET a 1 b", "LPUSH k 1", "SET k v EX", "INCRBY k x"} {
		d := made(t, 500)
		play(t, d, "0@0 SET k 1 => 0: +OK", "0@0 MULTI => 0: +OK")
		act(d, "0@0 "+line)
		play(t, d, "1@0 GET k => 1: \"1\"")
		if got := act(d, "0@0 EXEC"); !strings.HasPrefix(got, "0: [") {
			t.Errorf("%s: %s", line, got)
		}
	}
}
