package command_test

import (
	"testing"

	"larder/api"
	"larder/command"
	"larder/space"
)

func made(t *testing.T) *space.Space {
	t.Helper()
	s, e := space.New(256, 7)
	if e != api.OK {
		t.Fatalf("New: %d", e)
	}
	return s
}

func texts(words ...string) [][]byte {
	var found [][]byte
	for _, w := range words {
		found = append(found, []byte(w))
	}
	return found
}

// give carries f out as a command of these arguments.
func give(s *space.Space, db int, args [][]byte, f func(c *command.Call) api.Reply) api.Reply {
	c := &command.Call{Space: s, DB: db, Args: args}
	return c.Run(5, func() api.Reply { return f(c) })
}

func wantBad(t *testing.T, r api.Reply, e api.Errno) {
	t.Helper()
	if r.Kind != api.ReplyError || string(r.Text) != api.Text(e) {
		t.Errorf("%d %d %q, want %q", r.Kind, r.Num, r.Text, api.Text(e))
	}
}

func wantNumber(t *testing.T, r api.Reply, n int64) {
	t.Helper()
	if r.Kind != api.ReplyInt || r.Num != n {
		t.Errorf("%d %d %q, want %d", r.Kind, r.Num, r.Text, n)
	}
}

// TestR11_1_Run: what a Run answers, as a reply.
func TestR11_1_Run(t *testing.T) {
	s := made(t)
	wantNumber(t, give(s, 0, nil, func(c *command.Call) api.Reply { return api.Number(3) }), 3)
	if s.Clock() != 5 {
		t.Errorf("the clock is %d", s.Clock())
	}
	wantBad(t, give(s, 0, nil, func(c *command.Call) api.Reply { return api.Bad(api.BadKey) }), api.BadKey)
	wantBad(t, give(s, 0, nil, func(c *command.Call) api.Reply {
		c.Want(true, api.BadOver)
		c.WantRoom(api.OK)
		c.Want(false, api.BadRange)
		return api.Number(3)
	}), api.BadRange)
	wantBad(t, give(s, 0, nil, func(c *command.Call) api.Reply {
		c.WantRoom(api.ErrHeapFull)
		return api.Number(3)
	}), api.BadOOM)
	wantBad(t, give(s, 0, nil, func(c *command.Call) api.Reply {
		c.Space.Store(0, []byte("k"), api.Value{Kind: api.ValText, Text: make([]byte, 2000)})
		return api.Number(3)
	}), api.BadOOM)
	if s.Size(0) != 0 {
		t.Error("a refused command has laid something down")
	}
	wantNumber(t, give(s, 0, nil, func(c *command.Call) api.Reply {
		if r := give(s, 0, nil, func(*command.Call) api.Reply { return api.Number(3) }); r.Kind != api.ReplyNone {
			t.Errorf("inside a Run: %d", r.Kind)
		}
		return api.Number(4)
	}), 4)
}

// TestR11_2_Begin: the first that applies.
func TestR11_2_Begin(t *testing.T) {
	s := made(t)
	for _, c := range []struct {
		db   int
		args [][]byte
		want api.Errno
	}{
		{4, nil, api.BadMany}, {4, make([][]byte, 129), api.BadMany},
		{4, [][]byte{make([]byte, 4097)}, api.BadLong}, {0, [][]byte{nil, make([]byte, 4097)}, api.BadLong},
		{4, make([][]byte, 128), api.BadDB}, {-1, texts("x"), api.BadDB},
	} {
		wantBad(t, give(s, c.db, c.args, func(c *command.Call) api.Reply { return api.Status(c.Begin()) }), c.want)
	}
	for db := range api.MaxDB {
		full := append(texts("aZ-1"), make([][]byte, 127)...)
		full[1] = make([]byte, 4096)
		r := give(s, db, full, func(c *command.Call) api.Reply {
			name := c.Begin()
			if c.Left() != 127 {
				t.Errorf("%d arguments are left", c.Left())
			}
			return api.Status(name)
		})
		if string(r.Text) != "AZ-1" {
			t.Errorf("the name is %q", r.Text)
		}
	}
}

// TestTakes: n arguments, or n and more.
func TestTakes(t *testing.T) {
	for _, c := range []struct {
		arity, n int
		want     bool
	}{
		{2, 1, false}, {2, 2, true}, {2, 3, false}, {-2, 1, false}, {-2, 2, true}, {-2, 128, true}, {1, 1, true}, {1, 0, false}, {-1, 0, false}, {-1, 1, true},
	} {
		if got := command.Takes(api.Command{Arity: c.arity}, c.n); got != c.want {
			t.Errorf("%d of %d: %v", c.n, c.arity, got)
		}
	}
}

// TestR11_3_4_WantRow: the name ahead of the number of arguments.
func TestR11_3_4_WantRow(t *testing.T) {
	s := made(t)
	for _, c := range []struct {
		arity, args int
		known       bool
		want        api.Errno
	}{
		{0, 1, false, api.BadName}, {2, 2, false, api.BadName},
		{2, 1, true, api.BadArity}, {2, 3, true, api.BadArity}, {-3, 2, true, api.BadArity}, {-3, 1, true, api.BadArity},
	} {
		wantBad(t, give(s, 0, make([][]byte, c.args), func(call *command.Call) api.Reply {
			call.WantRow(api.Command{Arity: c.arity}, c.known)
			return api.Number(1)
		}), c.want)
	}
	for _, c := range [][2]int{{2, 2}, {1, 1}, {-3, 3}, {-3, 4}, {-3, 128}} {
		wantNumber(t, give(s, 0, make([][]byte, c[1]), func(call *command.Call) api.Reply {
			call.WantRow(api.Command{Arity: c[0]}, true)
			return api.Number(1)
		}), 1)
	}
}

// TestR11_5_Reading: from left to right, up to the first argument that is wrong.
func TestR11_5_Reading(t *testing.T) {
	s := made(t)
	wantNumber(t, give(s, 0, texts("name", "key", "-7", "5", "0", "Ex"), func(c *command.Call) api.Reply {
		c.Begin()
		if key := c.Next(); string(key) != "key" {
			t.Errorf("the key is %q", key)
		}
		sum := c.Number() + c.NumberFrom(5) + c.NumberFrom(0)
		if w := c.OneOf("PX", "EX"); w != "EX" || c.Left() != 0 {
			t.Errorf("the word is %q, %d arguments are left", w, c.Left())
		}
		return api.Number(sum)
	}), -2)
	for _, c := range []struct {
		text string
		read func(c *command.Call)
		want api.Errno
	}{
		{"1.5", func(c *command.Call) { c.Number() }, api.BadInt},
		{"9223372036854775808", func(c *command.Call) { c.NumberFrom(0) }, api.BadInt},
		{"x", func(c *command.Call) { c.Integer(c.Next()) }, api.BadInt},
		{"0", func(c *command.Call) { c.NumberFrom(1) }, api.BadRange},
		{"-9223372036854775808", func(c *command.Call) { c.NumberFrom(0) }, api.BadRange},
		{"EXX", func(c *command.Call) { c.OneOf("EX", "PX") }, api.BadSyntax},
		{"", func(c *command.Call) { c.OneOf("EX") }, api.BadSyntax},
	} {
		wantBad(t, give(s, 0, texts(c.text), func(call *command.Call) api.Reply {
			c.read(call)
			return api.Number(1)
		}), c.want)
	}
}

// TestR11_6_IsThere: a key of the kind that is wanted, of another, and none.
func TestR11_6_IsThere(t *testing.T) {
	s := made(t)
	wantNumber(t, give(s, 2, nil, func(c *command.Call) api.Reply {
		s.Store(2, []byte("k"), api.Value{Kind: api.ValText})
		if !c.IsThere([]byte("k"), api.ValText) || c.IsThere([]byte("none"), api.ValText) {
			t.Error("IsThere")
		}
		return api.Number(1)
	}), 1)
	wantNumber(t, give(s, 1, nil, func(c *command.Call) api.Reply {
		if c.IsThere([]byte("k"), api.ValText) {
			t.Error("IsThere in another database")
		}
		return api.Number(1)
	}), 1)
	wantBad(t, give(s, 2, nil, func(c *command.Call) api.Reply {
		c.IsThere([]byte("k"), api.ValList)
		return api.Number(1)
	}), api.BadKind)
}
