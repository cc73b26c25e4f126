package rows_test

import (
	"strings"
	"testing"

	"larder/api"
	"larder/rows"
)

// TestP12_2_TheOrderOfErrors: where several things are wrong, the earlier step of R11 decides.
func TestP12_2_TheOrderOfErrors(t *testing.T) {
	s := made(t, 256)
	store(t, s, "t", others()[0], 0)
	long := wide(api.MaxText + 1)
	none := func(n int) []string { return make([]string, n) }
	for i, c := range []struct {
		db      int
		command []string
		want    api.Errno
	}{
		{9, nil, api.BadMany},
		{-1, append(none(128), long), api.BadMany},
		{4, []string{"NOSUCH", long}, api.BadLong},
		{4, []string{long}, api.BadLong},
		{4, []string{"LLEN", "a", "b"}, api.BadDB},
		{-1, []string{"NOSUCH"}, api.BadDB},
		{1 << 40, []string{"LLEN", "a"}, api.BadDB},
		{3, []string{"NOSUCH"}, api.BadName},
		{0, none(128), api.BadName},
		{0, []string{"LSET", "t", "x"}, api.BadArity},
		{0, []string{"LSET", "t", "x", "y"}, api.BadInt},
		{0, []string{"LSET", "t", "9", "y"}, api.BadKind},
		{0, []string{"LSET", "a", "x", "y"}, api.BadInt},
		{0, []string{"LSET", "a", "9", wide(api.MaxText)}, api.BadKey},
		{0, []string{"LINDEX", "t", "9223372036854775808"}, api.BadInt},
		{0, []string{"LRANGE", "t", "x", "y"}, api.BadInt},
		{0, []string{"LRANGE", "t", "0", "y"}, api.BadInt},
		{0, []string{"LTRIM", "t", "0", ""}, api.BadInt},
		{0, []string{"LTRIM", "t", "01", "0"}, api.BadInt},
		{0, []string{"LREM", "t", "+1", "a"}, api.BadInt},
		{0, []string{"LPOP", "t", "x", "y"}, api.BadInt},
		{0, []string{"LPOP", "t", "-1", "y"}, api.BadRange},
		{0, []string{"LPOP", "t", "1", "y"}, api.BadSyntax},
		{0, []string{"RPOP", "t", "0"}, api.BadKind},
		{0, []string{"LINSERT", "t", "AROUND", "a", "b"}, api.BadSyntax},
		{0, []string{"LMOVE", "t", "a", "LEFT", "UP"}, api.BadSyntax},
		{0, []string{"LMOVE", "t", "a", "UP", "LEFT"}, api.BadSyntax},
		{0, []string{"LMOVE", "t", "a", "LEFT", "LEFT"}, api.BadKind},
		{0, []string{"LPOS", "t", "a", "RANK", "x", "RANK"}, api.BadInt},
		{0, []string{"LPOS", "t", "a", "RANK", "0", "RANK"}, api.BadRange},
		{0, []string{"LPOS", "t", "a", "RANK", "1", "RANK"}, api.BadSyntax},
		{0, []string{"LPOS", "t", "a", "COUNT", "-1", "x"}, api.BadRange},
		{0, []string{"LPOS", "t", "a", "x", "COUNT", "-1"}, api.BadSyntax},
		{0, []string{"LMPOP", "x", "t", "UP"}, api.BadInt},
		{0, []string{"LMPOP", "0", "t", "UP"}, api.BadRange},
		{0, []string{"LMPOP", "1", "t", "UP"}, api.BadSyntax},
		{0, []string{"LMPOP", "2", "t", "UP"}, api.BadSyntax},
		{0, []string{"LMPOP", "1", "t", "LEFT", "COUNT", "x", "y"}, api.BadInt},
		{0, []string{"LMPOP", "1", "t", "LEFT", "COUNT", "0", "y"}, api.BadRange},
		{0, []string{"LMPOP", "1", "t", "LEFT", "COUNT", "1", "y"}, api.BadSyntax},
		{0, []string{"LMPOP", "1", "t", "LEFT", "COUNT", "1"}, api.BadKind},
		{0, []string{"RPUSH", "t", wide(api.MaxText)}, api.BadKind},
		{0, []string{"RPUSH", "a", wide(api.MaxText)}, api.BadOOM},
	} {
		before := picture(s)
		line := brief(strings.Join(c.command, " "))
		if got := told(rows.Do(s, uint64(i), c.db, args(c.command...))); got != refusal(c.want) {
			t.Errorf("%s: %s, want %s", line, got, refusal(c.want))
		}
		if s.Clock() != uint64(i) {
			t.Errorf("%s: the clock is %d", line, s.Clock())
		}
		if picture(s) != before || len(s.Changed()) != 0 {
			t.Errorf("%s has changed something", line)
		}
	}
}

// TestP12_2_TheClockMovesWhateverIsWrong: what is due goes, and what is told to have changed is that alone.
func TestP12_2_TheClockMovesWhateverIsWrong(t *testing.T) {
	for _, command := range [][]string{nil, {"NOSUCH"}, {"LLEN"}, {"LINDEX", "b", "x"}, {"LSET", "b", "9", "x"}, {"LSET", "a", "9", "x"}, {"LLEN", wide(5000)}, {"RPUSH", "b", wide(4000)}, {"LPUSHX", "c", "v"}, {"LPOS", "b", "x"}, {"LLEN", "b"}, {"LREM", "b", "0", "y"}, {"LMOVE", "b", "b", "LEFT", "LEFT"}} {
		s := made(t, 256)
		store(t, s, "a", listOf("x y"), 15)
		store(t, s, "b", listOf("x z"), 0)
		rows.Do(s, 14, 0, args(command...))
		if s.Clock() != 14 || s.Size(0) != 2 || len(s.Changed()) != 0 {
			t.Errorf("%v at 14: clock %d, %d keys, changed %v", command, s.Clock(), s.Size(0), s.Changed())
		}
		rows.Do(s, 15, 0, args(command...))
		if s.Clock() != 15 || s.Size(0) != 1 {
			t.Errorf("%v at 15: clock %d, %d keys", command, s.Clock(), s.Size(0))
		}
		wantChanged(t, s, "a")
		rows.Do(s, 3, 0, args(command...))
		if s.Clock() != 15 {
			t.Errorf("the clock is %d", s.Clock())
		}
		rows.Do(s, 1<<64-1, 0, args(command...))
		if s.Clock() != api.MaxTime {
			t.Errorf("the clock is %d", s.Clock())
		}
	}
}

// TestR8_AListThatIsDueIsAbsent: for the command at whose reading it goes.
func TestR8_AListThatIsDueIsAbsent(t *testing.T) {
	for _, c := range []row{{"LLEN l", 0}, {"LPOP l", "nil"}, {"LPOP l 1", "nil array"}, {"LRANGE l 0 -1", "[]"}, {"LINDEX l 0", "nil"}, {"LSET l 0 a", api.BadKey}, {"LINSERT l BEFORE a b", 0}, {"LREM l 0 a", 0}, {"LTRIM l 0 0", "OK"}, {"LMOVE l l LEFT LEFT", "nil"}, {"LPOS l a", "nil"}, {"LMPOP 1 l LEFT", "nil array"}, {"RPUSHX l a", 0}, {"RPUSH l b", 1}} {
		s := made(t, 4000)
		store(t, s, "l", listOf("a"), 10)
		got := told(do(s, 10, c.line))
		if got != c.told() {
			t.Errorf("%s: %s, want %s", c.line, got, c.told())
		}
		wantChanged(t, s, "l")
		if s.Size(0) > 0 {
			wantList(t, s, "l", "b")
			wantDeadline(t, s, "l", 0)
		}
	}
}

// TestP12_2_InsideARun: nothing is done, and the Run goes on.
func TestP12_2_InsideARun(t *testing.T) {
	s, other := made(t, 256), made(t, 256)
	play(t, s, 1, row{"RPUSH a 1", 1})
	reply, e := s.Run(2, func() api.Reply {
		for _, command := range []string{"RPUSH a 2", "LLEN a", "LPOP a", "NOSUCH", "LPOP a -1", "LMOVE a b LEFT LEFT", ""} {
			r := do(s, 99, command)
			if r.Kind != api.ReplyNone || r.Num != 0 || len(r.Text) != 0 || len(r.List) != 0 {
				t.Errorf("%s: %v", command, r)
			}
		}
		if s.Clock() != 2 {
			t.Errorf("the clock is %d", s.Clock())
		}
		// Another space isn't running.
		play(t, other, 7, row{"RPUSH a 5", 1}, row{"LPOP a x", api.BadInt}, row{"LPOP a", `"5"`})
		s.Store(0, []byte("b"), listOf("x"))
		return api.Number(3)
	})
	if told(reply) != "3" || e != api.OK {
		t.Errorf("the Run answers %s, %d", told(reply), e)
	}
	wantList(t, s, "a", "1")
	wantList(t, s, "b", "x")
	play(t, s, 1, row{"LLEN a", 1})
}

// TestP12_2_Databases: a command sees its own database alone.
func TestP12_2_Databases(t *testing.T) {
	s := made(t, 4000)
	for db := range api.MaxDB {
		name := string(rune('0' + db))
		for _, c := range []row{{"LLEN k", 0}, {"RPUSHX k x", 0}, {"RPUSH k a b " + name, 3}, {"LPOP k", `"a"`}, {"RPOPLPUSH k m", `"` + name + `"`}, {"LMPOP 2 none m LEFT", `["m" ["` + name + `"]]`}, {"LSET k 0 " + name, "OK"}, {"LRANGE k 0 -1", `["` + name + `"]`}} {
			if got := told(rows.Do(s, 0, db, args(words(c.line)...))); got != c.told() {
				t.Errorf("%s in %d: %s, want %s", c.line, db, got, c.told())
			}
			for _, p := range s.Changed() {
				if p.DB != db {
					t.Errorf("%s in %d has changed %v", c.line, db, p)
				}
			}
		}
	}
}

// TestP12_2_Kinds: every key that a command names must have a list, or nothing.
func TestP12_2_Kinds(t *testing.T) {
	for _, v := range others() {
		s := made(t, 4000)
		store(t, s, "t", v, 50)
		store(t, s, "l", listOf("a b"), 0)
		for _, line := range []string{
			"LPUSH t a", "RPUSH t a", "LPUSHX t a", "RPUSHX t a", "LPOP t", "LPOP t 0", "LPOP t 1", "RPOP t", "RPOP t 0", "LLEN t", "LRANGE t 0 -1", "LRANGE t 5 1", "LINDEX t 0", "LINDEX t 5", "LSET t 0 a", "LSET t 9 a", "LINSERT t BEFORE a b", "LREM t 0 a", "LTRIM t 0 -1", "LTRIM t 1 0", "LPOS t a", "LPOS t a COUNT 0",
			"LMOVE t l LEFT LEFT", "LMOVE l t LEFT LEFT", "LMOVE t t LEFT RIGHT", "LMOVE none t RIGHT LEFT", "LMOVE t none RIGHT RIGHT", "RPOPLPUSH t l", "RPOPLPUSH l t", "RPOPLPUSH none t", "RPOPLPUSH t t",
			"LMPOP 1 t LEFT", "LMPOP 2 none t RIGHT", "LMPOP 2 l t LEFT", "LMPOP 3 none l t LEFT COUNT 5", "LMPOP 2 t l LEFT",
		} {
			play(t, s, 0, row{line, api.BadKind})
			wantChanged(t, s)
		}
	}
}
