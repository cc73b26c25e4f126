package board_test

import (
	"fmt"
	"slices"
	"strconv"
	"strings"
	"testing"

	"larder/api"
	"larder/board"
	"larder/nest"
	"larder/order"
	"larder/rows"
	"larder/space"
	"larder/text"
)

// chapterTable is the chapter's, sorted: name, arity, write, First, Last, Step.
const chapterTable = `
COMMAND -2 no 0 0 0
COPY -3 yes 1 2 1
DBSIZE 1 no 0 0 0
DEL -2 yes 1 -1 1
EXISTS -2 no 1 -1 1
EXPIRE -3 yes 1 1 1
EXPIREAT -3 yes 1 1 1
EXPIRETIME 2 no 1 1 1
FLUSHALL 1 yes 0 0 0
FLUSHDB 1 yes 0 0 0
KEYS 2 no 0 0 0
MEMORY -2 no 2 2 1
MOVE 3 yes 1 1 1
PERSIST 2 yes 1 1 1
PEXPIRE -3 yes 1 1 1
PEXPIREAT -3 yes 1 1 1
PEXPIRETIME 2 no 1 1 1
PTTL 2 no 1 1 1
RENAME 3 yes 1 2 1
RENAMENX 3 yes 1 2 1
SCAN -2 no 0 0 0
SORT -2 yes 1 1 1
SWAPDB 3 yes 0 0 0
TIME 1 no 0 0 0
TOUCH -2 no 1 -1 1
TTL 2 no 1 1 1
TYPE 2 no 1 1 1`

// chapterRows is the rows of the chapter's table.
func chapterRows() []api.Command {
	var found []api.Command
	for _, line := range strings.Split(strings.TrimSpace(chapterTable), "\n") {
		f := strings.Fields(line)
		var n [6]int
		for i := range n {
			n[i], _ = strconv.Atoi(f[i])
		}
		found = append(found, api.Command{Name: f[0], Arity: n[1], Write: f[2] == "yes", First: n[3], Last: n[4], Step: n[5]})
	}
	return found
}

func byName(a, b api.Command) int { return strings.Compare(a.Name, b.Name) }

// wholeTable is the rows of all data commands, sorted.
func wholeTable() []api.Command {
	return slices.SortedFunc(slices.Values(slices.Concat(chapterRows(), text.Commands(), rows.Commands(), nest.Commands(), order.Commands())), byName)
}

func TestP15_1_Commands(t *testing.T) {
	want := wholeTable()
	got := board.Commands()
	if len(want) != 27+25+17+29+31 || !slices.Equal(got, want) {
		t.Errorf("Commands: %+v, want %+v", got, want)
	}
	for i := range got[1:] {
		if got[i].Name >= got[i+1].Name {
			t.Errorf("%s stands ahead of %s", got[i].Name, got[i+1].Name)
		}
	}
	clear(got[:cap(got)])
	if !slices.Equal(board.Commands(), want) {
		t.Error("what a caller does with the rows is seen in the next ones")
	}
	if _, known := board.Find([]byte("DEL")); !known {
		t.Error("what a caller does with the rows is seen by Find")
	}
	play(t, made(t, 256), 0, row{"TTL a", -2}, row{"COMMAND COUNT", len(want)})
}

// TestP15_1_Write: a command that is not marked changes nothing; each of the chapter's that is marked can.
func TestP15_1_Write(t *testing.T) {
	changes := map[string]int{}
	for _, line := range every {
		s := fed(t)
		do(s, 0, line)
		changes[strings.ToUpper(words(line)[0])] += len(s.Changed())
	}
	for _, c := range chapterRows() {
		if n, given := changes[c.Name]; !given || (n > 0) != c.Write {
			t.Errorf("%s: %d changes, given: %v", c.Name, n, given)
		}
	}
}

func TestP15_2_Find(t *testing.T) {
	for _, c := range wholeTable() {
		for _, name := range []string{c.Name, strings.ToLower(c.Name), strings.ToLower(c.Name[:1]) + c.Name[1:], c.Name[:1] + strings.ToLower(c.Name[1:])} {
			given := []byte(name)
			if got, known := board.Find(given); got != c || !known {
				t.Errorf("Find(%s): %+v, %v; want %+v", name, got, known, c)
			}
			if string(given) != name {
				t.Errorf("Find(%s) has written into the name", name)
			}
		}
	}
	for _, name := range []string{"", "NOSUCH", "GE", "GETS", "DEL ", " DEL", "DEL\x00", "TT", "TTLS", "\u017fORT", "ec\u212a", "PING", "SELECT", "MULTI", "EXEC", "BLPOP", "*", "D*L", "Z", wide(5000)} {
		if got, known := board.Find([]byte(name)); got != (api.Command{}) || known {
			t.Errorf("Find(%q): %+v, %v", brief(name), got, known)
		}
	}
	if got, known := board.Find(nil); got != (api.Command{}) || known {
		t.Errorf("Find(nil): %+v, %v", got, known)
	}
}

// takes is whether a row takes so many arguments.
func takes(c api.Command, n int) bool { return n == c.Arity || c.Arity < 0 && n >= -c.Arity }

// ones is a command with so many arguments in all: a number fits more places than any other argument.
func ones(name string, n int) []string {
	return append([]string{name}, slices.Repeat([]string{"1"}, n-1)...)
}

// TestP15_3_Check: every command with every small number of arguments, by Check and by Do.
func TestP15_3_Check(t *testing.T) {
	for _, c := range wholeTable() {
		for n := 1; n <= 9; n++ {
			given := args(ones(c.Name, n)...)
			want := api.OK
			if !takes(c, n) {
				want = api.ErrBoardArity
			}
			if got := board.Check(given); got != want {
				t.Errorf("Check(%s of %d): %d, want %d", c.Name, n, got, want)
			}
			reply := told(board.Do(made(t, 4000), 0, 0, given))
			if want != api.OK && reply != refusal(api.BadArity) {
				t.Errorf("%s of %d: %s", c.Name, n, reply)
			}
			// MSET, MSETNX and HSET want a value to every name, which Check doesn't see.
			odd := c.Name == "MSET" || c.Name == "MSETNX" || c.Name == "HSET"
			if want == api.OK && reply == refusal(api.BadArity) && !odd {
				t.Errorf("%s of %d: %s", c.Name, n, reply)
			}
		}
	}
	for _, c := range []struct {
		command []string
		want    api.Errno
	}{
		{nil, api.ErrBoardName}, {[]string{""}, api.ErrBoardName}, {[]string{"NOSUCH", "x"}, api.ErrBoardName}, {[]string{"NOSUCH"}, api.ErrBoardName},
		{[]string{"GET"}, api.ErrBoardArity}, {[]string{"get", "x"}, api.OK}, {[]string{"gEt", "x", "y"}, api.ErrBoardArity}, {[]string{"mset", "a", "1", "b"}, api.OK}, {[]string{"hset", "a", "f", "v", "g"}, api.OK}, {[]string{"time"}, api.OK}, {[]string{"time", "1"}, api.ErrBoardArity},
		// The row alone counts: not what R11 asks ahead of the name, nor what is read behind it.
		{ones("DEL", 500), api.OK}, {[]string{"DEL", wide(5000)}, api.OK}, {ones("TTL", 500), api.ErrBoardArity}, {[]string{"EXPIRE", "a", "x"}, api.OK}, {[]string{"LMPOP", "x", "y", "z"}, api.OK},
	} {
		if got := board.Check(args(c.command...)); got != c.want {
			t.Errorf("Check(%s): %d, want %d", brief(fmt.Sprint(c.command)), got, c.want)
		}
	}
}

// TestP15_3_WhereCheckRefuses: Do answers with the error that belongs to it.
func TestP15_3_WhereCheckRefuses(t *testing.T) {
	belongs := map[api.Errno]api.Errno{api.ErrBoardName: api.BadName, api.ErrBoardArity: api.BadArity}
	for _, line := range []string{"NOSUCH", `""`, "GET", "DEL", "DBSIZE 1", "SORT", "COPY a", "LPUSH a", "zadd z 1", "hget h", "memory", "command", "swapdb 0", "swapdb 0 1 2", "expire k"} {
		e := board.Check(args(words(line)...))
		if belongs[e] == api.OK {
			t.Errorf("Check(%s): %d", line, e)
		}
		play(t, made(t, 256), 0, row{line, belongs[e]})
	}
}

// keysOf tells by P15.4's words the places of the keys that a row names among so many arguments, n being the number at Count.
func keysOf(c api.Command, many int, n int) []int {
	var found []int
	for i := range many {
		last := c.Last
		if last < 0 {
			last = many + last
		}
		if c.First > 0 && i >= c.First && i <= last && (i-c.First)%c.Step == 0 {
			found = append(found, i)
		}
	}
	if c.Count > 0 {
		for i := range n {
			found = append(found, c.Count+1+i)
		}
	}
	return found
}

// TestP15_4_Keys: of every command with every small number of arguments, and every number that may stand at Count.
func TestP15_4_Keys(t *testing.T) {
	for _, c := range wholeTable() {
		for many := 1; many <= 9; many++ {
			command := []string{strings.ToLower(c.Name)}
			for i := 1; i < many; i++ {
				command = append(command, fmt.Sprint("k", i%3))
			}
			if !takes(c, many) {
				wantKeys(t, command, nil, api.ErrBoardArity)
				continue
			}
			most := 0
			if c.Count > 0 {
				most = 10
				wantKeys(t, command, nil, api.ErrBoardKeys)
			}
			for n := range most + 1 {
				if c.Count > 0 {
					command[c.Count] = strconv.Itoa(n)
				}
				met := c.Count == 0 || n >= 1 && c.Count+n < many
				want := keysOf(c, many, n)
				if !met || len(want) == 0 {
					wantKeys(t, command, nil, api.ErrBoardKeys)
					continue
				}
				var keys []string
				for _, i := range want {
					keys = append(keys, command[i])
				}
				wantKeys(t, command, keys, api.OK)
			}
		}
	}
}

func wantKeys(t *testing.T, command, want []string, e api.Errno) {
	t.Helper()
	keys, got := board.Keys(args(command...))
	if got != e || !slices.Equal(texts(keys), want) {
		t.Errorf("Keys(%s): %s, %d; want %s, %d", brief(fmt.Sprintf("%q", command)), brief(quoted(texts(keys))), got, brief(quoted(want)), e)
	}
	reply := map[api.Errno]string{api.OK: quoted(want), api.ErrBoardName: refusal(api.BadName), api.ErrBoardArity: refusal(api.BadArity), api.ErrBoardKeys: refusal(api.BadSyntax)}[e]
	// What no command can be given is asked of Keys alone.
	tooLong := slices.ContainsFunc(command, func(w string) bool { return len(w) > api.MaxText })
	if len(command) > api.MaxArgs-2 || tooLong {
		return
	}
	if got := told(board.Do(keyless, 0, 0, args(append([]string{"COMMAND", "GETKEYS"}, command...)...))); got != reply {
		t.Errorf("COMMAND GETKEYS %q: %s, want %s", command, got, reply)
	}
}

// keyless is a space for what hangs on no key.
var keyless = func() *space.Space {
	s, _ := space.New(256, seed)
	return s
}()

func TestP15_4_SomeKeys(t *testing.T) {
	for _, c := range []struct {
		line string
		want string
		e    api.Errno
	}{
		{"", "", api.ErrBoardName}, {"NOSUCH x", "", api.ErrBoardName}, {`"" x`, "", api.ErrBoardName}, {"get", "", api.ErrBoardArity}, {"get x y", "", api.ErrBoardArity}, {"get x", "x", api.OK}, {`get ""`, `""`, api.OK},
		{"memory used", "", api.ErrBoardKeys}, {"memory quota", "", api.ErrBoardKeys}, {"memory usage k", "k", api.OK}, {"memory nosuch k l", "k", api.OK},
		{"time", "", api.ErrBoardKeys}, {"scan 0", "", api.ErrBoardKeys}, {"keys *", "", api.ErrBoardKeys}, {"command getkeys get x", "", api.ErrBoardKeys}, {"swapdb 0 1", "", api.ErrBoardKeys},
		{"DEL a b a", "a b a", api.OK}, {"mset a 1 b 2 c 3", "a b c", api.OK}, {"mset a 1 b", "a b", api.OK}, {"msetnx a a a a", "a a", api.OK}, {"bitop not d s", "d s", api.OK}, {"bitop and d s t u", "d s t u", api.OK},
		{"rename a b", "a b", api.OK}, {"copy a b db 1 replace", "a b", api.OK}, {"sort a by b get c store d", "a", api.OK}, {"lmove a b left right", "a b", api.OK}, {"sdiffstore a b c", "a b c", api.OK},
		{"zunionstore to 2 a b weights 1 2", "to a b", api.OK}, {"zunionstore to 3 a b", "", api.ErrBoardKeys}, {"zunionstore to 4 a b weights 1", "to a b weights 1", api.OK}, {"zinterstore to 1 a", "to a", api.OK}, {"zdiffstore to x a", "", api.ErrBoardKeys},
		{"lmpop 2 a b left", "a b", api.OK}, {"lmpop 3 a b left", "a b left", api.OK}, {"lmpop 4 a b left", "", api.ErrBoardKeys}, {"lmpop 0 a b left", "", api.ErrBoardKeys}, {"lmpop -1 a b left", "", api.ErrBoardKeys}, {"lmpop 01 a b left", "", api.ErrBoardKeys}, {"lmpop +1 a b left", "", api.ErrBoardKeys}, {"lmpop 1.0 a b left", "", api.ErrBoardKeys}, {`lmpop "" a b left`, "", api.ErrBoardKeys},
		{"lmpop " + greatest + " a b left", "", api.ErrBoardKeys}, {"lmpop " + least + " a b left", "", api.ErrBoardKeys}, {"lmpop 18446744073709551617 a b left", "", api.ErrBoardKeys}, {"lmpop 4294967297 a b left", "", api.ErrBoardKeys},
		{"zunion 1 a", "a", api.OK}, {"zintercard 2 a a limit 1", "a a", api.OK}, {"sintercard 1 a", "a", api.OK}, {"zmpop 1 a min", "a", api.OK},
	} {
		wantKeys(t, words(c.line), words(c.want), c.e)
	}
	long := wide(6000)
	wantKeys(t, []string{"TTL", long}, []string{long}, api.OK)
	wantKeys(t, ones("DEL", 400), ones("1", 399), api.OK)
	wantKeys(t, append([]string{"ZUNION", "398"}, ones("1", 398)...), ones("1", 398), api.OK)
}

// TestR2_KeysAreNewMemory: they share none with the arguments, nor with each other, nor with the spare room of either.
func TestR2_KeysAreNewMemory(t *testing.T) {
	for _, line := range []string{"del a b a", "lmpop 2 a a left", "zunionstore a 2 a a", "get a"} {
		block := []byte(line)
		var given [][]byte
		for from := 0; from < len(block); {
			n := strings.IndexByte(line[from:]+" ", ' ')
			given = append(given, block[from:from+n])
			from += n + 1
		}
		given = append(given, []byte("spare"))
		was := fmt.Sprintf("%q", given)
		keys, _ := board.Keys(given[:len(given)-1])
		if fmt.Sprintf("%q", given) != was || string(block) != line {
			t.Errorf("Keys(%s) has written into its arguments: %q", line, given)
		}
		want := slices.Clone(texts(keys))
		for i := range block {
			block[i] = '!'
		}
		clear(given)
		if !slices.Equal(texts(keys), want) {
			t.Errorf("Keys(%s) shares memory with its arguments: %q", line, keys)
		}
		for i, key := range keys {
			key = key[:cap(key)]
			for j := range key {
				key[j] = '?'
			}
			if !slices.Equal(texts(keys)[i+1:], want[i+1:]) {
				t.Errorf("keys of %s share memory: %q", line, keys)
			}
		}
		clear(keys[:cap(keys)])
	}
}

// TestP15_5_Names: names and the words of options are folded, and none but those of the table is known.
func TestP15_5_Names(t *testing.T) {
	s := made(t, 4000)
	play(t, s, 1500,
		row{"set a 1", "OK"}, row{"rPush l 3 1 2", 3}, row{"eXists a", 1}, row{"touch a b", 1}, row{"Type l", "list"}, row{"expire a 5 lT", 1}, row{"pExpire a 5000 xX gT", 0}, row{"expireAt a 9 gt", 1}, row{"pexpireat a 8000 Nx", 0}, row{"ttl a", 8}, row{"Pttl a", 7500}, row{"expiretime a", 9}, row{"pexpiretime a", 9000}, row{"persist a", 1}, row{"rename a b", "OK"}, row{"renamenx b a", 1}, row{"copy a c dB 1 rePlace", 1}, row{"move a 2", 1}, row{"swapdb 2 0", "OK"}, row{"keys *", bulks("a")}, row{"@2 scan 0 match * count 9 type List", `["0" ["l"]]`}, row{"dbsize", 1}, row{"flushdb", "OK"}, row{"@2 sort l by l* limit 0 2 get # asc alpha store d", 2}, row{"@2 sort l desC", bulks("3 2 1")}, row{"time", bulks("1 500000")}, row{"memory usAge a", "nil"}, row{"memory used", nil}, row{"memory quota", 4000}, row{"command count", 129}, row{"command getKeys get x", bulks("x")}, row{"flushall", "OK"},
		row{`""`, api.BadName}, row{"DE l", api.BadName}, row{"DELS l", api.BadName}, row{"UNLINK l", api.BadName}, row{"PING", api.BadName}, row{"SELECT 1", api.BadName}, row{"MULTI", api.BadName}, row{"BLPOP l 0", api.BadName}, row{"WATCH l", api.BadName}, row{"SORT_RO l", api.BadName}, row{"RANDOMKEY", api.BadName}, row{"OBJECT l", api.BadName}, row{"DUMP l", api.BadName},
		row{`"DEL\x00" l`, api.BadName}, row{`"\x20DEL" l`, api.BadName}, row{"\u017fORT l", api.BadName}, row{"\u212aEYS *", api.BadName}, row{"COPY a b REPLACE\u017f", api.BadSyntax}, row{"SORT l DE\u017fC", api.BadSyntax})
}

// TestP15_5_AsManyArgumentsAsCanBe: 128 are taken by every command that takes any number.
func TestP15_5_AsManyArgumentsAsCanBe(t *testing.T) {
	for _, c := range []struct {
		line string
		want string
	}{
		{"DEL", "1"}, {"EXISTS", "1"}, {"TOUCH", "1"}, {"SORT l", refusal(api.BadSyntax)}, {"COMMAND GETKEYS DEL", ""}, {"SCAN 0", refusal(api.BadSyntax)}, {"MEMORY USED", refusal(api.BadSyntax)}, {"COPY 100 l", refusal(api.BadSyntax)}, {"EXPIRE 100 5", refusal(api.BadSyntax)}, {"MGET", ""},
	} {
		s, command := made(t, 16384), words(c.line)
		store(t, s, "100", textOf("v"), 0)
		for len(command) < 128 {
			command = append(command, strconv.Itoa(len(command)))
		}
		got := told(board.Do(s, 0, 0, args(command...)))
		if c.want != "" && got != c.want || got[0] == 'k' {
			t.Errorf("%s and so on: %s, want %s", c.line, brief(got), c.want)
		}
		before := picture(s)
		if got := told(board.Do(s, 0, 0, args(append(command, "x")...))); got != refusal(api.BadMany) || picture(s) != before {
			t.Errorf("%s with 129 arguments: %s", c.line, got)
		}
	}
	s := made(t, 4000)
	store(t, s, "l", listOf("2 1"), 0)
	gets := strings.Repeat(" GET #", 63)
	if got := do(s, 0, "SORT l"+gets); len(got.List) != 126 || told(got.List[62])+told(got.List[63]) != `"1""2"` {
		t.Errorf("SORT with 63 patterns: %s", brief(told(got)))
	}
	play(t, s, 0, row{"SORT l ASC" + gets, api.BadMany})
}
