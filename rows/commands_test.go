package rows_test

import (
	"slices"
	"strconv"
	"strings"
	"testing"

	"larder/api"
	"larder/rows"
)

// table is the chapter's: name, arity, write, First, Last, Step, Count.
const table = `
LINDEX 3 no 1 1 1 0
LINSERT 5 yes 1 1 1 0
LLEN 2 no 1 1 1 0
LMOVE 5 yes 1 2 1 0
LMPOP -4 yes 0 0 0 1
LPOP -2 yes 1 1 1 0
LPOS -3 no 1 1 1 0
LPUSH -3 yes 1 1 1 0
LPUSHX -3 yes 1 1 1 0
LRANGE 4 no 1 1 1 0
LREM 4 yes 1 1 1 0
LSET 4 yes 1 1 1 0
LTRIM 4 yes 1 1 1 0
RPOP -2 yes 1 1 1 0
RPOPLPUSH 3 yes 1 2 1 0
RPUSH -3 yes 1 1 1 0
RPUSHX -3 yes 1 1 1 0`

func chapterRows(t *testing.T) []api.Command {
	t.Helper()
	var found []api.Command
	for _, line := range strings.Split(strings.TrimSpace(table), "\n") {
		f := strings.Fields(line)
		var n [7]int
		for i := range n {
			n[i], _ = strconv.Atoi(f[i])
		}
		found = append(found, api.Command{Name: f[0], Arity: n[1], Write: f[2] == "yes", First: n[3], Last: n[4], Step: n[5], Count: n[6]})
	}
	return found
}

func TestP12_1_Commands(t *testing.T) {
	want := chapterRows(t)
	got := rows.Commands()
	if !slices.Equal(got, want) {
		t.Errorf("Commands: %+v, want %+v", got, want)
	}
	if !slices.IsSortedFunc(got, func(a, b api.Command) int { return strings.Compare(a.Name, b.Name) }) {
		t.Error("the rows are not sorted")
	}
	clear(got[:cap(got)])
	if !slices.Equal(rows.Commands(), want) {
		t.Error("what a caller does with the rows is seen in the next ones")
	}
	if r := rows.Do(made(t, 256), 0, 0, args("LLEN", "a")); told(r) != "0" {
		t.Errorf("what a caller does with the rows is seen by Do: %s", told(r))
	}
}

// TestP12_2_Arity: every command with every small number of arguments.
func TestP12_2_Arity(t *testing.T) {
	for _, c := range chapterRows(t) {
		for n := 1; n <= 9; n++ {
			takes := n == c.Arity || c.Arity < 0 && n >= -c.Arity
			// A number fits more places than any other argument.
			command := []string{c.Name}
			for len(command) < n {
				command = append(command, "1")
			}
			got := told(rows.Do(made(t, 4000), 0, 0, args(command...)))
			if (got == refusal(api.BadArity)) == takes {
				t.Errorf("%v: %s", command, got)
			}
		}
	}
	s := made(t, 16384)
	many := append([]string{"RPUSH"}, make([]string, 127)...)
	if got := told(rows.Do(s, 0, 0, args(many...))); got != "126" {
		t.Errorf("128 arguments: %s", got)
	}
	if got := told(rows.Do(s, 0, 0, args(append(many, "")...))); got != refusal(api.BadMany) {
		t.Errorf("129 arguments: %s", got)
	}
}

// TestP12_2_Names: names are folded, and none but those of the table is known.
func TestP12_2_Names(t *testing.T) {
	play(t, made(t, 4000), 0,
		row{"rpush l a b", 2}, row{"Lpush l c", 3}, row{"lLeN l", 3}, row{"rpoplpush l l", `"b"`}, row{"lmove l l left Right", `"b"`}, row{"lpos l a rank 1 Count 1 maxlen 9", "[1]"}, row{"lmpop 1 l right count 1", `["l" ["b"]]`}, row{"linsert l After c z", 3},
		row{`"" l`, api.BadName}, row{"LLE l", api.BadName}, row{"LLENS l", api.BadName}, row{"LPUSHXX l a", api.BadName}, row{"DEL l", api.BadName}, row{"GET l", api.BadName}, row{"RPUSHL l a", api.BadName}, row{"RRANGE l 0 1", api.BadName},
		row{`"LLEN\x00" l`, api.BadName}, row{`"\x20LLEN" l`, api.BadName}, row{"LLE\u0166 l", api.BadName})
}
