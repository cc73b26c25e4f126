package desk_test

import (
	"fmt"
	"math"
	"strings"
	"testing"

	"larder/api"
	"larder/desk"
	"larder/record"
	"larder/space"
)

func made(t *testing.T, quota int) *desk.Desk {
	t.Helper()
	d, e := desk.New(api.Config{Quota: quota, Seed: 7})
	if e != api.OK || d == nil {
		t.Fatalf("New: %d", e)
	}
	return d
}

// said is a reply as the chapter writes it.
func said(r api.Reply) string {
	switch r.Kind {
	case api.ReplyStatus:
		return "+" + string(r.Text)
	case api.ReplyError:
		return string(r.Text)
	case api.ReplyInt:
		return fmt.Sprint(":", r.Num)
	case api.ReplyBulk:
		return fmt.Sprintf("%q", r.Text)
	case api.ReplyNil:
		return "nil"
	case api.ReplyNilArray:
		return "nil array"
	case api.ReplyArray:
		var parts []string
		for _, one := range r.List {
			parts = append(parts, said(one))
		}
		return "[" + strings.Join(parts, " ") + "]"
	}
	return "nothing"
}

func saidOuts(outs []api.Out) string {
	var parts []string
	for _, o := range outs {
		parts = append(parts, fmt.Sprintf("%d: %s", o.Conn, said(o.Reply)))
	}
	return strings.Join(parts, ", ")
}

func saidEntries(entries []api.Entry) string {
	var parts []string
	for _, e := range entries {
		var acts []string
		for _, a := range e.Group {
			acts = append(acts, fmt.Sprintf("%d %s", a.DB, bytesOf(a.Args)))
		}
		parts = append(parts, fmt.Sprintf("%d@%d %s", e.Seq, e.Now, strings.Join(acts, "; ")))
	}
	return strings.Join(parts, ", ")
}

func bytesOf(args [][]byte) string {
	var words []string
	for _, a := range args {
		words = append(words, string(a))
	}
	return strings.Join(words, " ")
}

// words are the arguments of a line.
func words(line string) [][]byte {
	var args [][]byte
	for _, w := range strings.Fields(line) {
		args = append(args, []byte(w))
	}
	return args
}

// act does one thing to a desk, written as "CONN@NOW command", "tick NOW", "break CONN@NOW", "leave CONN", "entries" or "saved", and tells what comes of it.
func act(d *desk.Desk, line string) string {
	what, rest, _ := strings.Cut(line, " ")
	var conn int
	var now uint64
	switch what {
	case "tick":
		fmt.Sscan(rest, &now)
		return saidOuts(d.Tick(now))
	case "break":
		fmt.Sscanf(rest, "%d@%d", &conn, &now)
		return saidOuts(d.Break(conn, now))
	case "leave":
		fmt.Sscan(rest, &conn)
		d.Leave(conn)
		return ""
	case "entries":
		return saidEntries(d.Entries())
	case "saved":
		saved, seq := d.Saved()
		return fmt.Sprint(saved, " ", seq)
	}
	fmt.Sscanf(what, "%d@%d", &conn, &now)
	return saidOuts(d.Submit(conn, now, words(rest)))
}

// play does one thing behind the other, each written "what => what comes of it".
func play(t *testing.T, d *desk.Desk, steps ...string) {
	t.Helper()
	for _, step := range steps {
		do, want, _ := strings.Cut(step, "=>")
		do, want = strings.TrimSpace(do), strings.TrimSpace(want)
		if got := act(d, do); got != want {
			t.Errorf("%s: %s, want %s", do, got, want)
		}
	}
}

// wantOuts asks what a command is answered that cannot be written as words.
func wantOuts(t *testing.T, d *desk.Desk, conn int, args [][]byte, want string) {
	t.Helper()
	if got := saidOuts(d.Submit(conn, 0, args)); got != want {
		t.Errorf("%.40q: %s, want %s", bytesOf(args), got, want)
	}
}

// picture is all that a space holds.
func picture(s *space.Space) string { return string(record.Dump(s, 0)) }

// long is a text of so many bytes.
func long(n int) string { return strings.Repeat("x", n) }

// list is a line of a name, so many words, and what stands behind them.
func list(name string, n int, behind string) string {
	var b strings.Builder
	b.WriteString(name)
	for i := range n {
		fmt.Fprintf(&b, " k%d", i)
	}
	return b.String() + " " + behind
}

// wantFresh asks of a connection whether it is fresh, where key "there" of database 0 alone is there. It is left so.
func wantFresh(t *testing.T, d *desk.Desk, c int) {
	t.Helper()
	play(t, d,
		fmt.Sprintf("%d@0 EXISTS there => %d: :1", c, c),
		fmt.Sprintf("%d@0 EXEC => %d: ERR EXEC without MULTI", c, c),
		fmt.Sprintf("%d@0 UNSUBSCRIBE => %d: [%q nil :0]", c, c, "unsubscribe"),
		fmt.Sprintf("%d@0 MULTI => %d: +OK", c, c),
		fmt.Sprintf("%d@0 EXEC => %d: []", c, c))
}

var noConns = []int{-1, 8, 9, math.MinInt, math.MaxInt}

func TestP19_1_New(t *testing.T) {
	for _, quota := range []int{255, 16385, 0, -1, 1, math.MinInt, math.MaxInt} {
		if d, e := desk.New(api.Config{Quota: quota, Seed: 3}); d != nil || e != api.ErrDeskQuota {
			t.Errorf("New with %d: %v, %d", quota, d != nil, e)
		}
	}
	for _, quota := range []int{256, 257, 16383, 16384} {
		d, e := desk.New(api.Config{Quota: quota, Seed: 1<<64 - 1})
		if d == nil || e != api.OK {
			t.Fatalf("New with %d: %d", quota, e)
		}
		s := d.Space()
		if s.Quota() != quota || s.Seed() != 1<<64-1 || s.Clock() != 0 || s.Cost() != 0 {
			t.Errorf("New with %d: a space of %d, %d, %d, %d", quota, s.Quota(), s.Seed(), s.Clock(), s.Cost())
		}
		play(t, d, "entries =>", "saved => false 0", "0@0 SET there 1 => 0: +OK", "entries => 1@0 0 SET there 1")
		for c := range api.MaxConns {
			wantFresh(t, d, c)
		}
	}
}

func TestP19_1_Adopt(t *testing.T) {
	for _, c := range []struct{ seq, last int64 }{{0, 0}, {1, 1}, {41, 41}, {-1, 0}, {math.MinInt64, 0}, {math.MaxInt64 - 1, math.MaxInt64 - 1}} {
		s, _ := space.New(500, 9)
		old := desk.Adopt(s, 0)
		play(t, old, "0@7 SET there 1 => 0: +OK", "1@7 MULTI => 1: +OK", "2@7 SUBSCRIBE a => 2: [\"subscribe\" \"a\" :1]", "3@7 BLPOP q 0 =>", "4@7 QUIT => 4: +OK")
		d := desk.Adopt(s, c.seq)
		if d.Space() != s {
			t.Error("Space tells another space")
		}
		play(t, d, fmt.Sprintf("saved => false %d", c.last), "entries =>")
		for conn := range api.MaxConns {
			wantFresh(t, d, conn)
		}
		play(t, d, "0@0 RPUSH q e => 0: :1", fmt.Sprintf("entries => %d@7 0 RPUSH q e", c.last+1))
	}
}

func TestP19_1_ClockOfAnAdoptedSpace(t *testing.T) {
	s, _ := space.New(500, 9)
	s.Run(40, nil)
	d := desk.Adopt(s, 3)
	play(t, d, "0@7 SET k 1 => 0: +OK", "1@0 BLPOP q 5 =>", "tick 44 =>", "tick 45 => 1: nil array", "entries => 4@40 0 SET k 1")
	if s.Size(0) != 1 || s.Clock() != 45 {
		t.Errorf("%d keys at %d", s.Size(0), s.Clock())
	}
}

func TestP19_1_TwoDesksHaveNothingInCommon(t *testing.T) {
	a, b := made(t, 500), made(t, 500)
	play(t, a, "0@5 SET there 1 => 0: +OK", "1@5 BLPOP q 0 =>", "2@5 SUBSCRIBE x => 2: [\"subscribe\" \"x\" :1]", "3@5 WATCH k => 3: +OK", "3@5 MULTI => 3: +OK", "4@5 QUIT => 4: +OK", "5@5 SELECT 2 => 5: +OK", "6@5 SAVE => 6: +OK")
	play(t, b, "saved => false 0", "entries =>", "1@0 GET there => 1: nil", "4@0 PING => 4: +PONG", "0@0 PUBLISH x m => 0: :0", "0@0 RPUSH q e => 0: :1", "0@0 SET k 1 => 0: +OK", "5@0 GET k => 5: \"1\"", "3@0 EXEC => 3: ERR EXEC without MULTI")
	play(t, a, "3@5 EXEC => 3: []", "0@5 LLEN q => 0: :0", "0@5 PUBSUB NUMSUB x => 0: [\"x\" :1]")
}

func TestP19_3_NoConnection(t *testing.T) {
	d := made(t, 500)
	play(t, d, "0@0 SET there 1 PX 5 => 0: +OK", "1@0 BLPOP q 5 =>")
	before := picture(d.Space())
	for _, conn := range noConns {
		if outs := d.Submit(conn, 9, words("SET there 2")); len(outs) != 0 {
			t.Errorf("Submit of %d: %s", conn, saidOuts(outs))
		}
		if outs := d.Break(conn, 9); len(outs) != 0 {
			t.Errorf("Break of %d: %s", conn, saidOuts(outs))
		}
		d.Submit(conn, 9, nil)
		d.Leave(conn)
	}
	if picture(d.Space()) != before || d.Space().Clock() != 0 {
		t.Error("something has changed")
	}
	play(t, d, "entries => 1@0 0 SET there 1 PX 5", "0@4 GET there => 0: \"1\"", "tick 5 => 1: nil array")
}

func TestP19_3_TickComesFirst(t *testing.T) {
	d := made(t, 500)
	play(t, d, "0@0 SET t 1 PX 10 => 0: +OK", "1@0 BLPOP q 10 =>", "2@0 BLMOVE q r LEFT LEFT 9 =>", "3@0 QUIT => 3: +OK")
	// What comes from a connection that is closed moves the clock all the same.
	play(t, d, "3@9 SET q 1 => 2: nil", "0@10 GET t => 1: nil array, 0: nil", "entries => 1@0 0 SET t 1 PX 10")
	// Whose time is over waits no more when its own command comes.
	play(t, d, "1@20 BRPOP q 5 =>", "1@24 PING =>", "1@25 ECHO a => 1: nil array, 1: +PONG, 1: \"a\"")
	// The commands that were held back come first, and may have it wait again.
	play(t, d, "1@30 BRPOP q 5 =>", "1@30 BLPOP q 0 =>", "1@35 ECHO a => 1: nil array", "0@35 RPUSH q x => 0: :1, 1: [\"q\" \"x\"], 1: \"a\"")
}

func TestP19_3_PassedOver(t *testing.T) {
	d := made(t, 500)
	play(t, d, "0@0 QUIT => 0: +OK", "0@0 SET k 1 =>", "0@0 =>", "0@0 NOPE =>", "0@0 QUIT =>", "0@0 BLPOP q 0 =>", "0@0 SAVE =>", "break 0@0 =>", "1@0 GET k => 1: nil", "1@0 RPUSH q e => 1: :1", "saved => false 1")
}

func TestP19_3_HeldBackWhateverItIs(t *testing.T) {
	d := made(t, 500)
	play(t, d, "1@0 BLPOP q 0 =>", "1@0 =>", "1@0 NOPE =>", "1@0 GET =>", "1@0 MULTI =>", "1@0 INCR n =>", "1@0 EXEC =>", "1@0 SAVE =>", "1@0 SELECT 3 =>", "1@0 SET k v =>")
	wantOuts(t, d, 1, [][]byte{[]byte("ECHO"), []byte(long(4097))}, "")
	wantOuts(t, d, 1, make([][]byte, 129), "")
	play(t, d, "saved => false 0", "entries =>", "0@0 EXISTS n k => 0: :0",
		"0@0 RPUSH q e => 0: :1, 1: [\"q\" \"e\"], 1: ERR too many, 1: ERR unknown command, 1: ERR wrong number of arguments, 1: +OK, 1: +QUEUED, 1: [:1], 1: +OK, 1: +OK, 1: +OK, 1: ERR too long, 1: ERR too many",
		"entries => 1@0 0 RPUSH q e, 2@0 0 LPOP q, 3@0 0 INCR n, 4@0 3 SET k v", "saved => true 4", "1@0 GET k => 1: \"v\"")
}

func TestP19_3_ManyHeldBack(t *testing.T) {
	d := made(t, 500)
	play(t, d, "1@0 BLPOP q 0 =>")
	var want []string
	for i := range 3000 {
		play(t, d, fmt.Sprintf("1@0 ECHO %d =>", i))
		want = append(want, fmt.Sprintf("1: %q", fmt.Sprint(i)))
	}
	play(t, d, "0@0 RPUSH q e => 0: :1, 1: [\"q\" \"e\"], "+strings.Join(want, ", "), "1@0 PING => 1: +PONG")
}

func TestP19_4_Break(t *testing.T) {
	for c := range api.MaxConns {
		d := made(t, 500)
		play(t, d, "0@0 SET there 1 => 0: +OK", fmt.Sprintf("break %d@3 => %d: ERR Protocol error", c, c))
		if d.Space().Clock() != 3 {
			t.Error("the clock has not moved")
		}
		play(t, d, fmt.Sprintf("%d@3 PING =>", c), fmt.Sprintf("break %d@4 =>", c), fmt.Sprintf("leave %d", c))
		wantFresh(t, d, c)
	}
}

func TestP19_4_WhatEnds(t *testing.T) {
	for _, end := range []string{"break 1@0 => 1: ERR Protocol error", "1@0 QUIT => 1: +OK"} {
		d := made(t, 500)
		play(t, d, "0@0 SET there 1 => 0: +OK", "1@0 SUBSCRIBE a b => 1: [\"subscribe\" \"a\" :1], 1: [\"subscribe\" \"b\" :2]", "1@0 PSUBSCRIBE * => 1: [\"psubscribe\" \"*\" :3]", end,
			"0@0 PUBLISH a m => 0: :0", "0@0 PUBSUB CHANNELS => 0: []", "0@0 PUBSUB NUMPAT => 0: :0", "leave 1")
		wantFresh(t, d, 1)
		play(t, d, "1@0 SELECT 2 => 1: +OK", "1@0 WATCH k => 1: +OK", "1@0 SET k 1 => 1: +OK", "1@0 MULTI => 1: +OK", "1@0 SET k 2 => 1: +QUEUED", end, "1@0 EXEC =>", "leave 1", "entries => 1@0 0 SET there 1, 2@0 2 SET k 1")
		wantFresh(t, d, 1)
	}
}

func TestP19_4_BreakTicksAndSettles(t *testing.T) {
	d := made(t, 500)
	play(t, d, "0@0 SET t 1 PX 5 => 0: +OK", "1@0 BLPOP q 5 =>", "1@0 RPUSH r 1 =>", "2@0 BLPOP r 0 =>", "break 3@5 => 1: nil array, 1: :1, 2: [\"r\" \"1\"], 3: ERR Protocol error", "0@5 GET t => 0: nil")
}

func TestP19_4_HeldBack(t *testing.T) {
	d := made(t, 500)
	play(t, d, "1@0 BLPOP q 0 =>", "1@0 PING =>", "break 1@0 =>", "1@0 SET k 1 =>", "break 1@0 =>",
		"0@0 RPUSH q e => 0: :1, 1: [\"q\" \"e\"], 1: +PONG, 1: ERR Protocol error", "1@0 PING =>", "break 1@0 =>", "0@0 GET k => 0: nil", "leave 1", "1@0 PING => 1: +PONG")
	// The same with a wait that ends by time.
	play(t, d, "1@0 BLMOVE q r LEFT LEFT 5 =>", "break 1@1 =>", "1@1 SET k 1 =>", "tick 5 => 1: nil, 1: ERR Protocol error", "0@5 GET k => 0: nil")
}

func TestP19_10_Leave(t *testing.T) {
	for c := range api.MaxConns {
		other := (c + 1) % api.MaxConns
		d := made(t, 500)
		on := func(line string) string { return fmt.Sprintf(line, c, c) }
		play(t, d, fmt.Sprintf("%d@0 SET there 1 => %d: +OK", other, other))
		play(t, d, on("%d@0 SELECT 2 => %d: +OK"), on("%d@0 WATCH k => %d: +OK"), on("%d@0 SET k 1 => %d: +OK"), on("%d@0 MULTI => %d: +OK"), on("%d@0 SET k 2 => %d: +QUEUED"), on("%d@0 NOPE => %d: ERR unknown command"), fmt.Sprint("leave ", c))
		wantFresh(t, d, c)
		play(t, d, fmt.Sprintf("%d@0 PSUBSCRIBE * => %d: [\"psubscribe\" \"*\" :1]", c, c), fmt.Sprint("leave ", c), fmt.Sprintf("%d@0 PUBLISH a m => %d: :0", other, other))
		wantFresh(t, d, c)
		play(t, d, on("%d@0 QUIT => %d: +OK"), fmt.Sprint("leave ", c))
		wantFresh(t, d, c)
		play(t, d, fmt.Sprintf("%d@0 BLPOP q 5 =>", c), fmt.Sprintf("%d@0 SET k 3 =>", c), fmt.Sprintf("break %d@0 =>", c), fmt.Sprint("leave ", c), fmt.Sprintf("%d@0 RPUSH q e => %d: :1", other, other), "tick 9 =>")
		wantFresh(t, d, c)
		play(t, d, fmt.Sprint("leave ", c), fmt.Sprint("leave ", c))
		wantFresh(t, d, c)
	}
}

func TestP19_10_OthersStay(t *testing.T) {
	d := made(t, 500)
	play(t, d, "0@0 MULTI => 0: +OK", "1@0 WATCH k => 1: +OK", "2@0 SUBSCRIBE a => 2: [\"subscribe\" \"a\" :1]", "3@0 BLPOP q 0 =>", "3@0 PING =>", "4@0 QUIT => 4: +OK", "5@0 SELECT 1 => 5: +OK",
		"leave 6", "leave 7", "leave 8", "leave -1",
		"0@0 EXEC => 0: []", "0@0 SET k 1 => 0: +OK", "1@0 MULTI => 1: +OK", "1@0 EXEC => 1: nil array", "0@0 PUBLISH a m => 2: [\"message\" \"a\" \"m\"], 0: :1", "0@0 RPUSH q e => 0: :1, 3: [\"q\" \"e\"], 3: +PONG", "4@0 PING =>", "5@0 GET k => 5: nil")
}

func TestP19_12_Saved(t *testing.T) {
	d := made(t, 500)
	play(t, d, "saved => false 0", "0@0 SAVE => 0: +OK", "0@0 SET k 1 => 0: +OK", "saved => true 1", "saved => false 1",
		"0@0 SAVE => 0: +OK", "1@0 save => 1: +OK", "entries => 1@0 0 SET k 1", "saved => true 1", "saved => false 1",
		"0@0 SAVE x => 0: ERR wrong number of arguments", "0@0 MULTI => 0: +OK", "0@0 SAVE => 0: ERR not now", "0@0 EXEC => 0: EXECABORT", "2@0 SUBSCRIBE a => 2: [\"subscribe\" \"a\" :1]", "2@0 SAVE => 2: ERR not now", "saved => false 1",
		"3@0 BLPOP q 5 =>", "3@0 SAVE =>", "saved => false 1", "tick 5 => 3: nil array, 3: +OK", "saved => true 1", "entries =>")
}
