package command_test

import (
	"fmt"
	"strings"
	"testing"

	"larder/api"
	"larder/command"
)

// reading gives the arguments to be read by f, and tells the error; OK, if there is none.
func reading(t *testing.T, line string, f func(c *command.Call)) string {
	t.Helper()
	r := give(made(t), 0, texts(strings.Fields(line)...), func(c *command.Call) api.Reply {
		f(c)
		return command.Done()
	})
	return string(r.Text)
}

// TestR11_5_Keys: how many, so many keys, and what must stand behind them.
func TestR11_5_Keys(t *testing.T) {
	for _, c := range []struct {
		line   string
		behind int
		want   string
	}{
		{"1 a", 0, "[a] 0"}, {"2 a b", 0, "[a b] 0"}, {"1 a b c", 0, "[a] 2"}, {"1 a b", 1, "[a] 1"}, {"2 a b c d", 2, "[a b] 2"},
		{"2 a", 0, api.Text(api.BadSyntax)}, {"1", 0, api.Text(api.BadSyntax)}, {"2 a b", 1, api.Text(api.BadSyntax)}, {"1", 2, api.Text(api.BadSyntax)}, {"9223372036854775807 a", 1, api.Text(api.BadSyntax)},
		{"0 a", 0, api.Text(api.BadRange)}, {"-1", 0, api.Text(api.BadRange)}, {"x a", 0, api.Text(api.BadInt)}, {"9223372036854775808 a", 0, api.Text(api.BadInt)},
	} {
		got := ""
		e := reading(t, c.line, func(call *command.Call) {
			got = fmt.Sprintf("%s %d", call.Keys(c.behind), call.Left())
		})
		if e != "OK" {
			got = e
		}
		if got != c.want {
			t.Errorf("%s: %s, want %s", c.line, got, c.want)
		}
	}
}

// TestR11_5_Once: an option's word, once, with so many arguments behind it, and without those that exclude it.
func TestR11_5_Once(t *testing.T) {
	bad := api.Text(api.BadSyntax)
	for _, c := range []struct {
		line   string
		behind int
		want   string
	}{
		{"x a", 1, "OK"}, {"x a y b", 1, "OK"}, {"y a x b", 1, bad}, {"x", 1, bad}, {"x a x b", 1, bad}, {"x a y", 1, bad},
		{"x", 0, "OK"}, {"x y", 0, "OK"}, {"x x", 0, bad}, {"y x", 0, bad}, {"y y", 0, bad},
		{"x a b", 2, "OK"}, {"x a", 2, bad}, {"x a b y c", 2, bad}, {"x a b y c d", 2, "OK"},
	} {
		x, y := false, false
		got := reading(t, c.line, func(call *command.Call) {
			for call.Left() > 0 {
				if string(call.Next()) == "x" {
					call.Once(&x, c.behind, false, y)
				} else {
					call.Once(&y, c.behind)
				}
				for range c.behind {
					call.Next()
				}
			}
		})
		if got != c.want {
			t.Errorf("%s: %s, want %s", c.line, got, c.want)
		}
	}
}

// TestR11_5_IsNext: it is asked, and not read.
func TestR11_5_IsNext(t *testing.T) {
	for _, c := range []struct {
		line string
		want bool
	}{{"ex 1", true}, {"Px", true}, {"EXX", false}, {"1 EX", false}, {"", false}} {
		reading(t, c.line, func(call *command.Call) {
			n := call.Left()
			if got := call.IsNext("EX", "PX"); got != c.want || call.Left() != n {
				t.Errorf("%s: %v, %d arguments are left", c.line, got, call.Left())
			}
		})
	}
}

// TestR11_5_LastNumber: an option with a number, behind which nothing stands; or nothing at all.
func TestR11_5_LastNumber(t *testing.T) {
	for _, c := range []struct {
		line        string
		least, none int64
		want        string
	}{
		{"", 1, 7, "7"}, {"COUNT 1", 1, 7, "1"}, {"count 9223372036854775807", 1, 7, "9223372036854775807"}, {"COUNT 0", 0, 7, "0"},
		{"COUNT 0", 1, 7, api.Text(api.BadRange)}, {"COUNT -1 x", 0, 7, api.Text(api.BadRange)}, {"COUNT x", 1, 7, api.Text(api.BadInt)}, {"COUNT x x", 1, 7, api.Text(api.BadInt)},
		{"COUNT", 1, 7, api.Text(api.BadSyntax)}, {"LIMIT 1", 1, 7, api.Text(api.BadSyntax)}, {"1", 1, 7, api.Text(api.BadSyntax)}, {"COUNT 1 x", 1, 7, api.Text(api.BadSyntax)}, {"COUNT 1 COUNT 1", 1, 7, api.Text(api.BadSyntax)},
	} {
		got := ""
		e := reading(t, c.line, func(call *command.Call) { got = fmt.Sprint(call.LastNumber("COUNT", c.least, c.none)) })
		if e != "OK" {
			got = e
		}
		if got != c.want {
			t.Errorf("%s: %s, want %s", c.line, got, c.want)
		}
	}
}

func TestR11_5_End(t *testing.T) {
	if got := reading(t, "", (*command.Call).End); got != "OK" {
		t.Errorf("nothing left: %s", got)
	}
	if got := reading(t, "x", (*command.Call).End); got != api.Text(api.BadSyntax) {
		t.Errorf("x left: %s", got)
	}
}

// TestEachAndHowMany: all arguments that are left are asked, from left to right.
func TestEachAndHowMany(t *testing.T) {
	reading(t, "a b a", func(c *command.Call) {
		r := c.Each(func(b []byte) api.Reply { return api.Number(int64(b[0])) })
		if r.Kind != api.ReplyArray || fmt.Sprint(r.List) != fmt.Sprint([]api.Reply{api.Number('a'), api.Number('b'), api.Number('a')}) || c.Left() != 0 {
			t.Errorf("Each: %v", r)
		}
	})
	reading(t, "a b a", func(c *command.Call) {
		seen := ""
		r := c.HowMany(func(b []byte) bool {
			seen += string(b)
			return b[0] == 'a'
		})
		if fmt.Sprint(r) != fmt.Sprint(api.Number(2)) || seen != "aba" {
			t.Errorf("HowMany: %v of %s", r, seen)
		}
	})
	reading(t, "", func(c *command.Call) {
		if r, n := c.Each(nil), c.HowMany(nil); r.Kind != api.ReplyArray || len(r.List) != 0 || n.Kind != api.ReplyInt || n.Num != 0 {
			t.Errorf("of nothing: %v, %v", r, n)
		}
	})
}

func TestR11_5_Rest(t *testing.T) {
	reading(t, "a b c", func(c *command.Call) {
		c.Next()
		if got := fmt.Sprintf("%s %d %s", c.Rest(), c.Left(), c.Rest()); got != "[b c] 0 []" {
			t.Errorf("the rest is %s", got)
		}
	})
}

// TestPage: what a scan is asked for.
func TestPage(t *testing.T) {
	for _, c := range []struct{ line, want string }{
		{"0", "0 10"}, {"5 COUNT 3", "5 3"}, {"18446744073709551615 match a count 1", "18446744073709551615 1"}, {"0 Count 65536 Match *", "0 65536"}, {"0 COUNT 65537", "0 65536"}, {"0 COUNT 9223372036854775807", "0 65536"},
		{"-1", api.Text(api.BadCursor)}, {"18446744073709551616 x", api.Text(api.BadCursor)}, {"00", api.Text(api.BadCursor)}, {"x", api.Text(api.BadCursor)},
		{"0 x", api.Text(api.BadSyntax)}, {"0 MATCH", api.Text(api.BadSyntax)}, {"0 COUNT", api.Text(api.BadSyntax)}, {"0 MATCH a MATCH a", api.Text(api.BadSyntax)}, {"0 COUNT 1 COUNT x", api.Text(api.BadSyntax)}, {"0 COUNT 1 x", api.Text(api.BadSyntax)},
		{"0 COUNT x COUNT", api.Text(api.BadInt)}, {"0 COUNT 0 COUNT", api.Text(api.BadRange)}, {"0 COUNT -1", api.Text(api.BadRange)},
	} {
		got := ""
		e := reading(t, c.line, func(call *command.Call) {
			p := call.Page()
			got = fmt.Sprintf("%d %d", p.Cursor, p.Count)
		})
		if e != "OK" {
			got = e
		}
		if got != c.want {
			t.Errorf("%s: %s, want %s", c.line, got, c.want)
		}
	}
}

// TestPageOfTypes: where types are named, one of them may be asked for.
func TestPageOfTypes(t *testing.T) {
	for _, c := range []struct{ line, want string }{
		{"0", "0 10 "}, {"0 TYPE set", "0 10 SET"}, {"0 tYpe LiSt COUNT 3", "0 3 LIST"}, {"7 COUNT 3 MATCH TYPE type SET", "7 3 SET"},
		{"0 TYPE", api.Text(api.BadSyntax)}, {"0 TYPE x", api.Text(api.BadSyntax)}, {"0 TYPE x COUNT 0", api.Text(api.BadSyntax)}, {"0 TYPE set TYPE set", api.Text(api.BadSyntax)}, {"0 COUNT 0 TYPE x", api.Text(api.BadRange)}, {"x TYPE x", api.Text(api.BadCursor)},
	} {
		got := ""
		e := reading(t, c.line, func(call *command.Call) {
			p := call.Page("SET", "LIST")
			got = fmt.Sprintf("%d %d %s", p.Cursor, p.Count, p.Type)
		})
		if e != "OK" {
			got = e
		}
		if got != c.want {
			t.Errorf("%s: %s, want %s", c.line, got, c.want)
		}
	}
	if e := reading(t, "0 TYPE set", func(call *command.Call) { call.Page() }); e != api.Text(api.BadSyntax) {
		t.Errorf("where no types are named: %s", e)
	}
}

// TestAnswer: the cursor, and what fits, each as it is told.
func TestAnswer(t *testing.T) {
	for _, c := range []struct{ line, want string }{
		{"0", "18446744073709551615: a a ab ab b b"}, {"0 MATCH a*", "18446744073709551615: a a ab ab"}, {"0 MATCH b", "18446744073709551615: b b"}, {"0 MATCH x", "18446744073709551615:"},
	} {
		reading(t, c.line, func(call *command.Call) {
			r := call.Page().Answer(1<<64-1, texts("a", "ab", "b"), func(name []byte) [][]byte { return [][]byte{name, name} })
			if r.Kind != api.ReplyArray || len(r.List) != 2 || r.List[0].Kind != api.ReplyBulk || r.List[1].Kind != api.ReplyArray {
				t.Fatalf("%s: %+v", c.line, r)
			}
			got := string(r.List[0].Text) + ":"
			for _, one := range r.List[1].List {
				got += " " + string(one.Text)
			}
			if got != c.want {
				t.Errorf("%s: %s, want %s", c.line, got, c.want)
			}
		})
	}
}

func TestReplies(t *testing.T) {
	for _, c := range []struct {
		got, want api.Reply
	}{
		{command.Done(), api.Status("OK")}, {command.Int(-5), api.Number(-5)}, {command.Flag(true), api.Number(1)}, {command.Flag(false), api.Number(0)},
		{command.Found([]byte("a"), true), api.Bulk([]byte("a"))}, {command.Found(nil, true), api.Bulk(nil)}, {command.Found(nil, false), api.Nil()},
		{command.Bulks(nil), api.Array(nil)}, {command.Bulks(texts("a", "")), api.Array([]api.Reply{api.Bulk([]byte("a")), api.Bulk(nil)})},
	} {
		if fmt.Sprint(c.got) != fmt.Sprint(c.want) {
			t.Errorf("%v, want %v", c.got, c.want)
		}
	}
	// R2: what is answered is new memory.
	b := []byte("abc")
	found, list := command.Found(b, true), command.Bulks([][]byte{b, b})
	b[0] = '!'
	list.List[0].Text[1] = '!'
	if string(found.Text) != "abc" || string(list.List[0].Text) != "a!c" || string(list.List[1].Text) != "abc" {
		t.Errorf("%s, %v", found.Text, list.List)
	}
}
