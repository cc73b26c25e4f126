package nest_test

import (
	"slices"
	"strconv"
	"strings"
	"testing"

	"larder/api"
	"larder/nest"
)

// chapterTable is the chapter's: name, arity, write, First, Last, Step, Count.
const chapterTable = `
HDEL -3 yes 1 1 1 0
HEXISTS 3 no 1 1 1 0
HGET 3 no 1 1 1 0
HGETALL 2 no 1 1 1 0
HINCRBY 4 yes 1 1 1 0
HKEYS 2 no 1 1 1 0
HLEN 2 no 1 1 1 0
HMGET -3 no 1 1 1 0
HSCAN -3 no 1 1 1 0
HSET -4 yes 1 1 1 0
HSETNX 4 yes 1 1 1 0
HSTRLEN 3 no 1 1 1 0
HVALS 2 no 1 1 1 0
SADD -3 yes 1 1 1 0
SCARD 2 no 1 1 1 0
SDIFF -2 no 1 -1 1 0
SDIFFSTORE -3 yes 1 -1 1 0
SINTER -2 no 1 -1 1 0
SINTERCARD -3 no 0 0 0 1
SINTERSTORE -3 yes 1 -1 1 0
SISMEMBER 3 no 1 1 1 0
SMEMBERS 2 no 1 1 1 0
SMISMEMBER -3 no 1 1 1 0
SMOVE 4 yes 1 2 1 0
SPOP -2 yes 1 1 1 0
SREM -3 yes 1 1 1 0
SSCAN -3 no 1 1 1 0
SUNION -2 no 1 -1 1 0
SUNIONSTORE -3 yes 1 -1 1 0`

func chapterRows(t *testing.T) []api.Command {
	t.Helper()
	var found []api.Command
	for _, line := range strings.Split(strings.TrimSpace(chapterTable), "\n") {
		f := strings.Fields(line)
		var n [7]int
		for i := range n {
			n[i], _ = strconv.Atoi(f[i])
		}
		found = append(found, api.Command{Name: f[0], Arity: n[1], Write: f[2] == "yes", First: n[3], Last: n[4], Step: n[5], Count: n[6]})
	}
	return found
}

func TestP13_1_Commands(t *testing.T) {
	want := chapterRows(t)
	got := nest.Commands()
	if len(want) != 29 || !slices.Equal(got, want) {
		t.Errorf("Commands: %+v, want %+v", got, want)
	}
	if !slices.IsSortedFunc(got, func(a, b api.Command) int { return strings.Compare(a.Name, b.Name) }) {
		t.Error("the rows are not sorted")
	}
	clear(got[:cap(got)])
	if !slices.Equal(nest.Commands(), want) {
		t.Error("what a caller does with the rows is seen in the next ones")
	}
	if r := nest.Do(made(t, 256), 0, 0, args("HLEN", "a")); told(r) != "0" {
		t.Errorf("what a caller does with the rows is seen by Do: %s", told(r))
	}
}

// TestP13_2_Arity: every command with every small number of arguments.
func TestP13_2_Arity(t *testing.T) {
	for _, c := range chapterRows(t) {
		for n := 1; n <= 9; n++ {
			takes := n == c.Arity || c.Arity < 0 && n >= -c.Arity
			if c.Name == "HSET" {
				takes = takes && n%2 == 0
			}
			// A number fits more places than any other argument.
			command := []string{c.Name}
			for len(command) < n {
				command = append(command, "1")
			}
			got := told(nest.Do(made(t, 4000), 0, 0, args(command...)))
			if (got == refusal(api.BadArity)) == takes {
				t.Errorf("%v: %s", command, got)
			}
		}
	}
}

// TestP13_2_AsManyArgumentsAsCanBe: 128 are taken by every command that takes any number.
func TestP13_2_AsManyArgumentsAsCanBe(t *testing.T) {
	for _, c := range []struct {
		line string
		want string
	}{
		{"HSET h", "63"}, {"HDEL h", "0"}, {"HMGET h", ""}, {"SADD s", "126"}, {"SREM s", "0"}, {"SMISMEMBER s", ""}, {"SUNION", "[]"}, {"SINTER", "[]"}, {"SDIFF", "[]"}, {"SUNIONSTORE", "0"}, {"SINTERSTORE", "0"}, {"SDIFFSTORE", "0"}, {"SINTERCARD 126", "0"}, {"SINTERCARD 127", refusal(api.BadSyntax)},
	} {
		s, command := made(t, 16384), words(c.line)
		for len(command) < 128 {
			command = append(command, strconv.Itoa(len(command)))
		}
		got := nest.Do(s, 0, 0, args(command...))
		if c.want != "" && told(got) != c.want || c.want == "" && len(got.List) != 126 {
			t.Errorf("%s and so on: %s, want %s", c.line, brief(told(got)), c.want)
		}
		before := picture(s)
		if got := told(nest.Do(s, 0, 0, args(append(command, "x")...))); got != refusal(api.BadMany) || picture(s) != before {
			t.Errorf("%s with 129 arguments: %s", c.line, got)
		}
	}
}

// TestP13_2_Names: names are folded, and none but those of the table is known.
func TestP13_2_Names(t *testing.T) {
	play(t, made(t, 4000), 0,
		row{"hset h a 1 b 2", 2}, row{"hGet h a", `"1"`}, row{"hGETALL h", bulks("a 1 b 2")}, row{"Sadd s a b", 2}, row{"smIsmEmbEr s a", "[1]"}, row{"sintercard 1 s Limit 1", 1}, row{"hscan h 0 match a Count 5", `["0" ["a" "1"]]`}, row{"sscan s 0 Match b count 5", `["0" ["b"]]`},
		row{`"" h`, api.BadName}, row{"HLE h", api.BadName}, row{"HLENS h", api.BadName}, row{"HCARD h", api.BadName}, row{"SLEN s", api.BadName}, row{"HADD h a", api.BadName}, row{"SGET s a", api.BadName}, row{"SMISMEMBERS s a", api.BadName}, row{"SRANDMEMBER s", api.BadName}, row{"HMSET h a 1", api.BadName}, row{"HINCRBYFLOAT h a 1", api.BadName}, row{"DEL h", api.BadName}, row{"GET h", api.BadName}, row{"LPUSH h a", api.BadName}, row{"H h", api.BadName}, row{"S s", api.BadName},
		row{`"HLEN\x00" h`, api.BadName}, row{`"\x20HLEN" h`, api.BadName}, row{"HLE\u0166 h", api.BadName}, row{"\u017fCARD s", api.BadName})
}
