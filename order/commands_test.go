package order_test

import (
	"slices"
	"strconv"
	"strings"
	"testing"

	"larder/api"
	"larder/order"
)

// chapterTable is the chapter's: name, arity, write, First, Last, Step, Count.
const chapterTable = `
ZADD -4 yes 1 1 1 0
ZCARD 2 no 1 1 1 0
ZCOUNT 4 no 1 1 1 0
ZDIFF -3 no 0 0 0 1
ZDIFFSTORE -4 yes 1 1 1 2
ZINCRBY 4 yes 1 1 1 0
ZINTER -3 no 0 0 0 1
ZINTERCARD -3 no 0 0 0 1
ZINTERSTORE -4 yes 1 1 1 2
ZLEXCOUNT 4 no 1 1 1 0
ZMPOP -4 yes 0 0 0 1
ZMSCORE -3 no 1 1 1 0
ZPOPMAX -2 yes 1 1 1 0
ZPOPMIN -2 yes 1 1 1 0
ZRANGE -4 no 1 1 1 0
ZRANGEBYLEX -4 no 1 1 1 0
ZRANGEBYSCORE -4 no 1 1 1 0
ZRANGESTORE -5 yes 1 2 1 0
ZRANK -3 no 1 1 1 0
ZREM -3 yes 1 1 1 0
ZREMRANGEBYLEX 4 yes 1 1 1 0
ZREMRANGEBYRANK 4 yes 1 1 1 0
ZREMRANGEBYSCORE 4 yes 1 1 1 0
ZREVRANGE -4 no 1 1 1 0
ZREVRANGEBYLEX -4 no 1 1 1 0
ZREVRANGEBYSCORE -4 no 1 1 1 0
ZREVRANK -3 no 1 1 1 0
ZSCAN -3 no 1 1 1 0
ZSCORE 3 no 1 1 1 0
ZUNION -3 no 0 0 0 1
ZUNIONSTORE -4 yes 1 1 1 2`

func chapterRows(t *testing.T) []api.Command {
	t.Helper()
	var found []api.Command
	for _, line := range strings.Split(strings.TrimSpace(chapterTable), "\n") {
		f := strings.Fields(line)
		var n [7]int
		for i := range n {
			n[i], _ = strconv.Atoi(f[i])
		}
		found = append(found, api.Command{Name: f[0], Arity: n[1], Write: f[2] == "yes", First: n[3], Last: n[4], Step: n[5], Count: n[6]})
	}
	return found
}

func TestP14_1_Commands(t *testing.T) {
	want := chapterRows(t)
	got := order.Commands()
	if len(want) != 31 || !slices.Equal(got, want) {
		t.Errorf("Commands: %+v, want %+v", got, want)
	}
	if !slices.IsSortedFunc(got, func(a, b api.Command) int { return strings.Compare(a.Name, b.Name) }) {
		t.Error("the rows are not sorted")
	}
	clear(got[:cap(got)])
	if !slices.Equal(order.Commands(), want) {
		t.Error("what a caller does with the rows is seen in the next ones")
	}
	if r := order.Do(made(t, 256), 0, 0, args("ZCARD", "a")); told(r) != "0" {
		t.Errorf("what a caller does with the rows is seen by Do: %s", told(r))
	}
}

// TestP14_1_Write: a command that is not marked changes nothing; each that is marked can.
func TestP14_1_Write(t *testing.T) {
	changes := map[string]int{}
	for _, line := range every {
		s := fed(t)
		do(s, 0, line)
		changes[strings.ToUpper(words(line)[0])] += len(s.Changed())
	}
	for _, c := range chapterRows(t) {
		if n, given := changes[c.Name]; !given || (n > 0) != c.Write {
			t.Errorf("%s: %d changes, given: %v", c.Name, n, given)
		}
	}
}

// TestP14_2_Arity: every command with every small number of arguments.
func TestP14_2_Arity(t *testing.T) {
	for _, c := range chapterRows(t) {
		for n := 1; n <= 9; n++ {
			takes := n == c.Arity || c.Arity < 0 && n >= -c.Arity
			// A number fits more places than any other argument.
			command := []string{c.Name}
			for len(command) < n {
				command = append(command, "1")
			}
			got := told(order.Do(made(t, 4000), 0, 0, args(command...)))
			if (got == refusal(api.BadArity)) == takes {
				t.Errorf("%v: %s", command, got)
			}
		}
	}
}

// TestP14_2_AsManyArgumentsAsCanBe: 128 are taken by every command that takes any number.
func TestP14_2_AsManyArgumentsAsCanBe(t *testing.T) {
	for _, c := range []struct {
		line string
		want string
	}{
		{"ZADD z", "63"}, {"ZADD z CH XX", "0"}, {"ZADD z CH GT", "62"}, {"ZADD z CH", refusal(api.BadSyntax)}, {"ZREM z", "0"}, {"ZMSCORE z", ""}, {"ZUNION 126", "[]"}, {"ZINTER 126", "[]"}, {"ZDIFF 126", "[]"}, {"ZUNION 127", refusal(api.BadSyntax)}, {"ZUNIONSTORE d 125", "0"}, {"ZINTERSTORE d 125", "0"}, {"ZDIFFSTORE d 125", "0"}, {"ZINTERCARD 126", "0"}, {"ZINTERCARD 127", refusal(api.BadSyntax)}, {"ZMPOP 125", refusal(api.BadSyntax)},
	} {
		s, command := made(t, 16384), words(c.line)
		for len(command) < 128 {
			command = append(command, strconv.Itoa(len(command)))
		}
		got := order.Do(s, 0, 0, args(command...))
		if c.want != "" && told(got) != c.want || c.want == "" && len(got.List) != 126 {
			t.Errorf("%s and so on: %s, want %s", c.line, brief(told(got)), c.want)
		}
		before := picture(s)
		if got := told(order.Do(s, 0, 0, args(append(command, "x")...))); got != refusal(api.BadMany) || picture(s) != before {
			t.Errorf("%s with 129 arguments: %s", c.line, got)
		}
	}
}

// TestP14_2_Names: names and the words of options are folded, and none but those of the table is known.
func TestP14_2_Names(t *testing.T) {
	play(t, made(t, 4000), 0,
		row{"zadd z 1 a 2 b", 2}, row{"zAdd z nx Ch 1 a 3 c", 1}, row{"Zadd z xX gT inCR 1 a", `"2"`}, row{"zadd z Lt 1 a", 0}, row{"zScore z a", `"1"`}, row{"zrange z 0 -1 withScores reV", bulks("c 3 b 2 a 1")}, row{"zrange z 0 5 byScore limit 0 1", bulks("a")}, row{"zrange z - + byLex", bulks("a b c")}, row{"zrank z a withScore", `[0 "1"]`}, row{"zunion 1 z weights 2 aggregate Max withscores", bulks("a 2 b 4 c 6")}, row{"zintercard 1 z Limit 1", 1}, row{"zscan z 0 match a Count 5", `["0" ["a" "1"]]`}, row{"zmpop 1 z mIn cOUNT 1", `["z" [["a" "1"]]]`},
		row{`"" z`, api.BadName}, row{"ZCAR z", api.BadName}, row{"ZCARDS z", api.BadName}, row{"ZLEN z", api.BadName}, row{"ZSET z a 1", api.BadName}, row{"ZRANDMEMBER z", api.BadName}, row{"ZPOP z", api.BadName}, row{"ZINCR z a", api.BadName}, row{"ZDIFFCARD 1 z", api.BadName}, row{"ZUNIONCARD 1 z", api.BadName}, row{"ZREVRANGESTORE d z 0 1", api.BadName}, row{"ZREMRANGE z 0 1", api.BadName}, row{"BZPOPMIN z 0", api.BadName}, row{"SADD z a", api.BadName}, row{"DEL z", api.BadName}, row{"GET z", api.BadName}, row{"Z z", api.BadName},
		row{`"ZCARD\x00" z`, api.BadName}, row{`"\x20ZCARD" z`, api.BadName}, row{"ZRAN\u212a z a", api.BadName}, row{"Z\u017fCORE z a", api.BadName}, row{"ZRANK z b WITH\u017fCORE", api.BadSyntax})
}
