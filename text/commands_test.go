package text_test

import (
	"slices"
	"strings"
	"testing"

	"larder/api"
	"larder/text"
)

// table is the chapter's: name, arity, write, First, Last, Step.
const table = `
APPEND 3 yes 1 1 1
BITCOUNT -2 no 1 1 1
BITFIELD -2 yes 1 1 1
BITOP -4 yes 2 -1 1
BITPOS -3 no 1 1 1
DECR 2 yes 1 1 1
DECRBY 3 yes 1 1 1
GET 2 no 1 1 1
GETBIT 3 no 1 1 1
GETDEL 2 yes 1 1 1
GETEX -2 yes 1 1 1
GETRANGE 4 no 1 1 1
GETSET 3 yes 1 1 1
INCR 2 yes 1 1 1
INCRBY 3 yes 1 1 1
MGET -2 no 1 -1 1
MSET -3 yes 1 -1 2
MSETNX -3 yes 1 -1 2
PSETEX 4 yes 1 1 1
SET -3 yes 1 1 1
SETBIT 4 yes 1 1 1
SETEX 4 yes 1 1 1
SETNX 3 yes 1 1 1
SETRANGE 4 yes 1 1 1
STRLEN 2 no 1 1 1`

func number(t *testing.T, s string) int {
	t.Helper()
	n := 0
	for _, c := range strings.TrimPrefix(s, "-") {
		n = 10*n + int(c-'0')
	}
	if s[0] == '-' {
		return -n
	}
	return n
}

func chapterRows(t *testing.T) []api.Command {
	var rows []api.Command
	for _, line := range strings.Split(strings.TrimSpace(table), "\n") {
		f := strings.Fields(line)
		rows = append(rows, api.Command{Name: f[0], Arity: number(t, f[1]), Write: f[2] == "yes", First: number(t, f[3]), Last: number(t, f[4]), Step: number(t, f[5])})
	}
	return rows
}

func TestP11_1_Commands(t *testing.T) {
	want := chapterRows(t)
	got := text.Commands()
	if !slices.Equal(got, want) {
		t.Errorf("Commands: %+v, want %+v", got, want)
	}
	if !slices.IsSortedFunc(got, func(a, b api.Command) int { return strings.Compare(a.Name, b.Name) }) {
		t.Error("the rows are not sorted")
	}
	clear(got[:cap(got)])
	if !slices.Equal(text.Commands(), want) {
		t.Error("what a caller does with the rows is seen in the next ones")
	}
	if r := text.Do(made(t, 256), 0, 0, args("GET", "a")); told(r) != "nil" {
		t.Errorf("what a caller does with the rows is seen by Do: %s", told(r))
	}
}

// TestP11_2_Arity: every command with every small number of arguments.
func TestP11_2_Arity(t *testing.T) {
	for _, c := range chapterRows(t) {
		for n := 1; n <= 9; n++ {
			takes := n == c.Arity || c.Arity < 0 && n >= -c.Arity
			if strings.HasPrefix(c.Name, "MSET") && n%2 == 0 {
				takes = false
			}
			// A number fits more places than any other argument.
			command := []string{c.Name}
			for len(command) < n {
				command = append(command, "1")
			}
			got := told(text.Do(made(t, 4000), 0, 0, args(command...)))
			if (got == refusal(api.BadArity)) == takes {
				t.Errorf("%v: %s", command, got)
			}
		}
	}
	s := made(t, 16384)
	many := []string{"MSET"}
	for len(many) < 127 {
		many = append(many, "k", "v")
	}
	for _, c := range []struct{ name, want string }{{"MSETNX", "1"}, {"MSET", "OK"}, {"MGET", "["}} {
		many[0] = c.name
		if got := told(text.Do(s, 0, 0, args(many...))); !strings.HasPrefix(got, c.want) {
			t.Errorf("127 arguments of %s: %s", c.name, brief(got))
		}
	}
	full := append([]string{"MGET"}, make([]string, 127)...)
	if r := text.Do(s, 0, 0, args(full...)); len(r.List) != 127 {
		t.Errorf("128 arguments: %s", brief(told(r)))
	}
	full[0] = "MSET"
	if r := text.Do(s, 0, 0, args(full...)); told(r) != refusal(api.BadArity) {
		t.Errorf("128 arguments of MSET: %s", brief(told(r)))
	}
}

// TestP11_2_Names: names are folded, and none but those of the table is known.
func TestP11_2_Names(t *testing.T) {
	play(t, made(t, 4000), 0,
		row{"set a 1", "OK"}, row{"Get a", `"1"`}, row{"sTrLeN a", 1}, row{"mget a b", `["1" nil]`}, row{"bitop not d a", 1},
		row{`"" a`, api.BadName}, row{"GE a", api.BadName}, row{"GETS a", api.BadName}, row{"DEL a", api.BadName}, row{"LPUSH a b", api.BadName},
		row{`"GET\x00" a`, api.BadName}, row{`"\x20GET" a`, api.BadName}, row{"GE\u0166 a", api.BadName}, row{"SETE\u2126", api.BadName})
}
