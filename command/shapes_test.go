package command_test

import (
	"fmt"
	"strings"
	"testing"

	"larder/api"
	"larder/command"
)

// reading gives the arguments to be read by f, and tells the error; OK, if there is none.
func reading(t *testing.T, line string, f func(c *command.Call)) string {
	t.Helper()
	r := give(made(t), 0, texts(strings.Fields(line)...), func(c *command.Call) api.Reply {
		f(c)
		return command.Done()
	})
	return string(r.Text)
}

// TestR11_5_Keys: how many, so many keys, and what must stand behind them.
func TestR11_5_Keys(t *testing.T) {
	for _, c := range []struct {
		line   string
		behind int
		want   string
	}{
		{"1 a", 0, "[a] 0"}, {"2 a b", 0, "[a b] 0"}, {"1 a b c", 0, "[a] 2"}, {"1 a b", 1, "[a] 1"}, {"2 a b c d", 2, "[a b] 2"},
		{"2 a", 0, api.Text(api.BadSyntax)}, {"1", 0, api.Text(api.BadSyntax)}, {"2 a b", 1, api.Text(api.BadSyntax)}, {"1", 2, api.Text(api.BadSyntax)}, {"9223372036854775807 a", 1, api.Text(api.BadSyntax)},
		{"0 a", 0, api.Text(api.BadRange)}, {"-1", 0, api.Text(api.BadRange)}, {"x a", 0, api.Text(api.BadInt)}, {"9223372036854775808 a", 0, api.Text(api.BadInt)},
	} {
		got := ""
		e := reading(t, c.line, func(call *command.Call) {
			got = fmt.Sprintf("%s %d", call.Keys(c.behind), call.Left())
		})
		if e != "OK" {
			got = e
		}
		if got != c.want {
			t.Errorf("%s: %s, want %s", c.line, got, c.want)
		}
	}
}

// TestR11_5_Once: an option's word, once, with an argument behind it.
func TestR11_5_Once(t *testing.T) {
	for _, c := range []struct {
		line string
		want string
	}{
		{"x a", "OK"}, {"x a y b", "OK"}, {"x", api.Text(api.BadSyntax)}, {"x a x b", api.Text(api.BadSyntax)}, {"x a y", api.Text(api.BadSyntax)},
	} {
		x, y := false, false
		got := reading(t, c.line, func(call *command.Call) {
			for call.Left() > 0 {
				if string(call.Next()) == "x" {
					call.Once(&x)
				} else {
					call.Once(&y)
				}
				call.Next()
			}
		})
		if got != c.want {
			t.Errorf("%s: %s, want %s", c.line, got, c.want)
		}
	}
}

func TestR11_5_Rest(t *testing.T) {
	reading(t, "a b c", func(c *command.Call) {
		c.Next()
		if got := fmt.Sprintf("%s %d %s", c.Rest(), c.Left(), c.Rest()); got != "[b c] 0 []" {
			t.Errorf("the rest is %s", got)
		}
	})
}

// TestPage: what a scan is asked for.
func TestPage(t *testing.T) {
	for _, c := range []struct{ line, want string }{
		{"0", "0 10"}, {"5 COUNT 3", "5 3"}, {"18446744073709551615 match a count 1", "18446744073709551615 1"}, {"0 Count 65536 Match *", "0 65536"}, {"0 COUNT 65537", "0 65536"}, {"0 COUNT 9223372036854775807", "0 65536"},
		{"-1", api.Text(api.BadCursor)}, {"18446744073709551616 x", api.Text(api.BadCursor)}, {"00", api.Text(api.BadCursor)}, {"x", api.Text(api.BadCursor)},
		{"0 x", api.Text(api.BadSyntax)}, {"0 MATCH", api.Text(api.BadSyntax)}, {"0 COUNT", api.Text(api.BadSyntax)}, {"0 MATCH a MATCH a", api.Text(api.BadSyntax)}, {"0 COUNT 1 COUNT x", api.Text(api.BadSyntax)}, {"0 COUNT 1 x", api.Text(api.BadSyntax)},
		{"0 COUNT x COUNT", api.Text(api.BadInt)}, {"0 COUNT 0 COUNT", api.Text(api.BadRange)}, {"0 COUNT -1", api.Text(api.BadRange)},
	} {
		got := ""
		e := reading(t, c.line, func(call *command.Call) {
			p := call.Page()
			got = fmt.Sprintf("%d %d", p.Cursor, p.Count)
		})
		if e != "OK" {
			got = e
		}
		if got != c.want {
			t.Errorf("%s: %s, want %s", c.line, got, c.want)
		}
	}
}

// TestAnswer: the cursor, and what fits, each as it is told.
func TestAnswer(t *testing.T) {
	for _, c := range []struct{ line, want string }{
		{"0", "18446744073709551615: a a ab ab b b"}, {"0 MATCH a*", "18446744073709551615: a a ab ab"}, {"0 MATCH b", "18446744073709551615: b b"}, {"0 MATCH x", "18446744073709551615:"},
	} {
		reading(t, c.line, func(call *command.Call) {
			r := call.Page().Answer(1<<64-1, texts("a", "ab", "b"), func(name []byte) [][]byte { return [][]byte{name, name} })
			if r.Kind != api.ReplyArray || len(r.List) != 2 || r.List[0].Kind != api.ReplyBulk || r.List[1].Kind != api.ReplyArray {
				t.Fatalf("%s: %+v", c.line, r)
			}
			got := string(r.List[0].Text) + ":"
			for _, one := range r.List[1].List {
				got += " " + string(one.Text)
			}
			if got != c.want {
				t.Errorf("%s: %s, want %s", c.line, got, c.want)
			}
		})
	}
}

func TestReplies(t *testing.T) {
	for _, c := range []struct {
		got, want api.Reply
	}{
		{command.Done(), api.Status("OK")}, {command.Int(-5), api.Number(-5)}, {command.Flag(true), api.Number(1)}, {command.Flag(false), api.Number(0)},
		{command.Found([]byte("a"), true), api.Bulk([]byte("a"))}, {command.Found(nil, true), api.Bulk(nil)}, {command.Found(nil, false), api.Nil()},
		{command.Bulks(nil), api.Array(nil)}, {command.Bulks(texts("a", "")), api.Array([]api.Reply{api.Bulk([]byte("a")), api.Bulk(nil)})},
	} {
		if fmt.Sprint(c.got) != fmt.Sprint(c.want) {
			t.Errorf("%v, want %v", c.got, c.want)
		}
	}
	// R2: what is answered is new memory.
	b := []byte("abc")
	found, list := command.Found(b, true), command.Bulks([][]byte{b, b})
	b[0] = '!'
	list.List[0].Text[1] = '!'
	if string(found.Text) != "abc" || string(list.List[0].Text) != "a!c" || string(list.List[1].Text) != "abc" {
		t.Errorf("%s, %v", found.Text, list.List)
	}
}
