package text_test

import (
	"strings"
	"testing"

	"larder/api"
	"larder/space"
	"larder/text"
)

// TestP11_2_TheOrderOfErrors: where several things are wrong, the earlier step of R11 decides.
func TestP11_2_TheOrderOfErrors(t *testing.T) {
	s := made(t, 256)
	store(t, s, "l", others()[0], 0)
	long := wide(api.MaxText + 1)
	none := func(n int) []string { return make([]string, n) }
	for i, c := range []struct {
		db      int
		command []string
		want    api.Errno
	}{
		{9, nil, api.BadMany},
		{-1, append(none(128), long), api.BadMany},
		{4, []string{"NOSUCH", long}, api.BadLong},
		{4, []string{long}, api.BadLong},
		{4, []string{"GET", "a", "b"}, api.BadDB},
		{-1, []string{"NOSUCH"}, api.BadDB},
		{1 << 40, []string{"GET", "a"}, api.BadDB},
		{3, []string{"NOSUCH"}, api.BadName},
		{0, none(128), api.BadName},
		{0, []string{"SETBIT", "l", "x"}, api.BadArity},
		{0, []string{"SETBIT", "l", "x", "y"}, api.BadInt},
		{0, []string{"SETBIT", "l", "-1", "y"}, api.BadRange},
		{0, []string{"SETBIT", "l", "1", "y"}, api.BadInt},
		{0, []string{"SETBIT", "l", "1", "2"}, api.BadBit},
		{0, []string{"SETBIT", "l", "1", "1"}, api.BadKind},
		{0, []string{"INCRBY", "l", "9223372036854775808"}, api.BadInt},
		{0, []string{"APPEND", "l", wide(api.MaxText)}, api.BadKind},
		{0, []string{"SETRANGE", "l", "4097", wide(api.MaxText)}, api.BadRange},
		{0, []string{"SETRANGE", "l", "4096", wide(api.MaxText)}, api.BadKind},
		{0, []string{"SETRANGE", "a", "4096", wide(api.MaxText)}, api.BadLong},
		{0, []string{"SETRANGE", "a", "0", wide(api.MaxText)}, api.BadOOM},
		{0, []string{"GETEX", "l", "EX", "0"}, api.BadTime},
		{0, []string{"SET", "l", "v", "GET", "EX", "0"}, api.BadTime},
		{0, []string{"SET", "l", wide(api.MaxText), "GET"}, api.BadKind},
		{0, []string{"SET", "l", wide(api.MaxText)}, api.BadOOM},
		{0, []string{"BITOP", "NOT", "d", "l", "m"}, api.BadSyntax},
		{0, []string{"BITFIELD", "l", "SET", "u8", "0"}, api.BadSyntax},
		{0, []string{"BITFIELD", "l", "SET", "u8", "0", "0"}, api.BadKind},
	} {
		before := picture(s)
		if got := told(text.Do(s, uint64(i), c.db, args(c.command...))); got != refusal(c.want) {
			t.Errorf("%s: %s, want %s", brief(strings.Join(c.command, " ")), got, refusal(c.want))
		}
		if s.Clock() != uint64(i) {
			t.Errorf("%s: the clock is %d", brief(strings.Join(c.command, " ")), s.Clock())
		}
		if picture(s) != before || len(s.Changed()) != 0 {
			t.Errorf("%s has changed something", brief(strings.Join(c.command, " ")))
		}
	}
}

// TestP11_2_TheClockMovesWhateverIsWrong: what is due goes, and what is told to have changed is that alone.
func TestP11_2_TheClockMovesWhateverIsWrong(t *testing.T) {
	for _, command := range [][]string{nil, {"NOSUCH"}, {"GET"}, {"INCRBY", "b", "x"}, {"INCR", "b"}, {"GET", wide(5000)}, {"SET", "b", wide(4000)}, {"SETNX", "b", "v"}, {"STRLEN", "b"}} {
		s := made(t, 256)
		play(t, s, 5, row{"SET a 1 PX 10", "OK"}, row{"SET b x", "OK"})
		text.Do(s, 14, 0, args(command...))
		if s.Clock() != 14 || s.Size(0) != 2 || len(s.Changed()) != 0 {
			t.Errorf("%v at 14: clock %d, %d keys, changed %v", command, s.Clock(), s.Size(0), s.Changed())
		}
		text.Do(s, 15, 0, args(command...))
		if s.Clock() != 15 || s.Size(0) != 1 || len(s.Changed()) != 1 || s.Changed()[0] != at(0, "a") {
			t.Errorf("%v at 15: clock %d, %d keys, changed %v", command, s.Clock(), s.Size(0), s.Changed())
		}
		text.Do(s, 3, 0, args(command...))
		if s.Clock() != 15 {
			t.Errorf("the clock is %d", s.Clock())
		}
		text.Do(s, 1<<64-1, 0, args(command...))
		if s.Clock() != api.MaxTime {
			t.Errorf("the clock is %d", s.Clock())
		}
	}
}

// TestP11_2_InsideARun: nothing is done, and the Run goes on.
func TestP11_2_InsideARun(t *testing.T) {
	s, other := made(t, 256), made(t, 256)
	play(t, s, 1, row{"SET a 1", "OK"})
	reply, e := s.Run(2, func() api.Reply {
		for _, command := range []string{"SET a 2", "GET a", "NOSUCH", "INCR a", "SET a v EX 0", ""} {
			r := text.Do(s, 99, 0, args(words(command)...))
			if r.Kind != api.ReplyNone || r.Num != 0 || len(r.Text) != 0 || len(r.List) != 0 {
				t.Errorf("%s: %v", command, r)
			}
		}
		if s.Clock() != 2 {
			t.Errorf("the clock is %d", s.Clock())
		}
		// Another space isn't running.
		play(t, other, 7, row{"SET a 5", "OK"}, row{"INCR b x", api.BadArity}, row{"INCRBY b x", api.BadInt}, row{"GET a", `"5"`})
		s.Store(0, []byte("b"), api.Value{Kind: api.ValText, Text: []byte("x")})
		return api.Number(3)
	})
	if told(reply) != "3" || e != api.OK {
		t.Errorf("the Run answers %s, %d", told(reply), e)
	}
	wantText(t, s, "a", "1")
	wantText(t, s, "b", "x")
	play(t, s, 1, row{"GET a", `"1"`})
}

// TestP11_2_Databases: a command sees its own database alone.
func TestP11_2_Databases(t *testing.T) {
	s := made(t, 4000)
	for db := range api.MaxDB {
		for _, c := range []row{{"GET k", "nil"}, {"MSETNX k 5", 1}, {"INCRBY k " + string(rune('0'+db)), 5 + db}, {"BITOP OR d k", 1}, {"SETBIT e 9 1", 0}, {"GETDEL d", `"` + string(rune('5'+db)) + `"`}} {
			if got := told(text.Do(s, 0, db, args(words(c.line)...))); got != c.told() {
				t.Errorf("%s in %d: %s, want %s", c.line, db, got, c.told())
			}
			for _, p := range s.Changed() {
				if p.DB != db {
					t.Errorf("%s in %d has changed %v", c.line, db, p)
				}
			}
		}
	}
}

// TestP11_2_Kinds: what each command wants of the keys that it names.
func TestP11_2_Kinds(t *testing.T) {
	for _, v := range others() {
		fresh := func() *space.Space {
			s := made(t, 4000)
			store(t, s, "l", v, 50)
			play(t, s, 0, row{"SET a b", "OK"})
			return s
		}
		for _, line := range []string{"GET l", "STRLEN l", "SET l x GET", "SET l x NX GET", "SET l x XX GET", "SET l x GET PXAT 1", "GETSET l x", "GETDEL l", "GETEX l", "GETEX l PERSIST", "GETEX l PXAT 1", "APPEND l x", `APPEND l ""`, "GETRANGE l 0 -1", "GETRANGE l 5 1", "SETRANGE l 0 x", `SETRANGE l 0 ""`, "INCR l", "DECR l", "INCRBY l 0", "DECRBY l 1", "GETBIT l 0", "GETBIT l 32767", "SETBIT l 0 0", "BITCOUNT l", "BITCOUNT l 5 1", "BITPOS l 0", "BITPOS l 1 0 0", "BITOP AND d l", "BITOP NOT d l", "BITOP OR l l", "BITOP XOR d a l", "BITOP XOR d none l a", "BITFIELD l", "BITFIELD l GET u8 0", "BITFIELD l SET u8 0 1", "BITFIELD l OVERFLOW SAT"} {
			play(t, fresh(), 0, row{line, api.BadKind})
		}
		for _, c := range []row{{"SET l x", "OK"}, {"SET l x XX", "OK"}, {"SETEX l 1 x", "OK"}, {"PSETEX l 1 x", "OK"}, {"MSET l x", "OK"}, {"MSET l y a z l x", "OK"}} {
			s := fresh()
			play(t, s, 0, c)
			wantText(t, s, "l", "x")
		}
		for _, c := range []row{{"SET l x NX", "nil"}, {"SETNX l x", 0}, {"MSETNX l x", 0}, {"MSETNX n x l y", 0}, {"MGET l a l", `[nil "b" nil]`}} {
			s := fresh()
			before := picture(s)
			play(t, s, 0, c)
			if picture(s) != before {
				t.Errorf("%s has changed something", c.line)
			}
		}
		s := fresh()
		play(t, s, 0, row{"BITOP OR l a", 1})
		wantText(t, s, "l", "b")
		wantDeadline(t, s, "l", 0)
		s = fresh()
		play(t, s, 0, row{"BITOP OR l none", 0})
		wantGone(t, s, "l")
		s = fresh()
		play(t, s, 0, row{"SET l x KEEPTTL", "OK"})
		wantText(t, s, "l", "x")
		wantDeadline(t, s, "l", 50)
	}
}
