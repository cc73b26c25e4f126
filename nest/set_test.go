package nest_test

import (
	"fmt"
	"testing"

	"larder/api"
)

func TestP13_2_SADD(t *testing.T) {
	playAll(t,
		turn{"", "SADD k a", 1, "a"}, turn{"", "SADD k c a b a", 3, "a b c"}, turn{"a b", "SADD k b c", 1, "a b c"}, turn{"a b", "SADD k a b a", 0, "a b"}, turn{"a b", "SADD k aa", 1, "a aa b"}, turn{"a", "SADD k A", 1, "A a"},
		turn{"", `SADD k ""`, 1, `""`}, turn{"a", `SADD k "" ""`, 1, `"" a`}, turn{"a", `SADD k "a\x00" "\xff\r\n"`, 2, `a "a\x00" "\xff\r\n"`},
	)
}

func TestP13_2_SREM(t *testing.T) {
	playAll(t,
		turn{"a b c", "SREM k b", 1, "a c"}, turn{"a b c", "SREM k b b", 1, "a c"}, turn{"a b c", "SREM k x c a y", 2, "b"}, turn{"a b c", "SREM k a b c", 3, ""}, turn{"a", "SREM k a a", 1, ""}, turn{"a", "SREM k b", 0, "a"}, turn{"a", "SREM k A", 0, "a"}, turn{`"" a`, `SREM k ""`, 1, "a"}, turn{"", "SREM k a b", 0, ""},
	)
}

func TestP13_2_AskingASet(t *testing.T) {
	const l = `"" "\x00" "\x00\x00" A Z a aa ab b "\x7f" "\x80" "\xff"`
	playAll(t,
		turn{"a b", "SCARD k", 2, "a b"}, turn{l, "SCARD k", 12, l}, turn{"", "SCARD k", 0, ""},
		turn{"a b", "SISMEMBER k a", 1, "a b"}, turn{"a b", "SISMEMBER k c", 0, "a b"}, turn{"a b", `SISMEMBER k ""`, 0, "a b"}, turn{`""`, `SISMEMBER k ""`, 1, `""`}, turn{"", "SISMEMBER k a", 0, ""},
		turn{"a b", "SMISMEMBER k a", "[1]", "a b"}, turn{"a b", "SMISMEMBER k x b a b", "[0 1 1 1]", "a b"}, turn{"", "SMISMEMBER k a b", "[0 0]", ""},
		turn{"a b", "SMEMBERS k", bulks("a b"), "a b"}, turn{l, "SMEMBERS k", bulks(l), l}, turn{"", "SMEMBERS k", "[]", ""},
	)
}

func TestP13_2_SPOP(t *testing.T) {
	playAll(t,
		turn{"a b c", "SPOP k", `"a"`, "b c"}, turn{"a", "SPOP k", `"a"`, ""}, turn{`"" a`, "SPOP k", `""`, "a"}, turn{"B a", "SPOP k", `"B"`, "a"}, turn{`a aa "\xff"`, "SPOP k", `"a"`, `aa "\xff"`}, turn{"", "SPOP k", "nil", ""},
		turn{"a b c", "SPOP k 0", "[]", "a b c"}, turn{"a b c", "SPOP k 1", bulks("a"), "b c"}, turn{"a b c", "SPOP k 2", bulks("a b"), "c"}, turn{"a b c", "SPOP k 3", bulks("a b c"), ""}, turn{"a b c", "SPOP k 4", bulks("a b c"), ""}, turn{"a b c", "SPOP k " + greatest, bulks("a b c"), ""}, turn{"a b c", "SPOP k 4294967296", bulks("a b c"), ""}, turn{"", "SPOP k 0", "[]", ""}, turn{"", "SPOP k 5", "[]", ""},
		turn{"a", "SPOP k -1", api.BadRange, "a"}, turn{"a", "SPOP k " + least, api.BadRange, "a"}, turn{"a", "SPOP k x", api.BadInt, "a"}, turn{"a", `SPOP k ""`, api.BadInt, "a"}, turn{"a", "SPOP k 01", api.BadInt, "a"}, turn{"a", "SPOP k 9223372036854775808", api.BadInt, "a"}, turn{"a", "SPOP k 1 1", api.BadSyntax, "a"}, turn{"a", "SPOP k x 1", api.BadInt, "a"}, turn{"a", "SPOP k -1 1", api.BadRange, "a"}, turn{"", "SPOP k -1", api.BadRange, ""},
	)
}

func TestP13_2_SMOVE(t *testing.T) {
	for _, c := range []struct {
		from, to, line string
		want           any
		left, came     string
		changed        []string
	}{
		{"a b", "c", "SMOVE k n a", 1, "b", "a c", []string{"k", "n"}},
		{"a b", "", "SMOVE k n a", 1, "b", "a", []string{"k", "n"}},
		{"a", "c", "SMOVE k n a", 1, "", "a c", []string{"k", "n"}},
		{"a", "", "SMOVE k n a", 1, "", "a", []string{"k", "n"}},
		{"a b", "a c", "SMOVE k n a", 1, "b", "a c", []string{"k"}},
		{"a", "a", "SMOVE k n a", 1, "", "a", []string{"k"}},
		{"a b", "c", "SMOVE k n x", 0, "a b", "c", nil},
		{"a b", "c", "SMOVE k n c", 0, "a b", "c", nil},
		{"a b", "", "SMOVE k n x", 0, "a b", "", nil},
		{"", "c", "SMOVE k n c", 0, "", "c", nil},
		{"", "", "SMOVE k n c", 0, "", "", nil},
		{"a b", "c", "SMOVE k k a", 1, "a b", "c", nil},
		{"a", "c", "SMOVE k k a", 1, "a", "c", nil},
		{"a b", "c", "SMOVE k k x", 0, "a b", "c", nil},
		{"", "c", "SMOVE k k x", 0, "", "c", nil},
		{`"" b`, "c", `SMOVE k n ""`, 1, "b", `"" c`, []string{"k", "n"}},
	} {
		t.Run(fmt.Sprintf("%s/%s/%s", c.from, c.to, c.line), func(t *testing.T) {
			s := made(t, 4000)
			for key, line := range map[string]string{"k": c.from, "n": c.to} {
				if line != "" {
					store(t, s, key, setOf(line), deadline)
				}
			}
			play(t, s, 0, row{c.line, c.want})
			wantChanged(t, s, c.changed...)
			for _, l := range [][3]string{{"k", c.left, c.from}, {"n", c.came, c.to}} {
				if l[1] == "" {
					wantGone(t, s, l[0])
					continue
				}
				wantValue(t, s, l[0], setOf(l[1]))
				if l[2] == "" {
					wantDeadline(t, s, l[0], 0)
				} else {
					wantDeadline(t, s, l[0], deadline)
				}
			}
		})
	}
}

// combined is what the three commands tell of some keys' sets.
type combined struct{ keys, union, inter, diff string }

var combinations = []combined{
	{"a", "1 2 3 4", "1 2 3 4", "1 2 3 4"},
	{"a b", "1 2 3 4 5 6", "3 4", "1 2"},
	{"b a", "1 2 3 4 5 6", "3 4", "5 6"},
	{"a b c", "1 2 3 4 5 6 7", "4", "1 2"},
	{"c a b", "1 2 3 4 5 6 7", "4", "7"},
	{"a a", "1 2 3 4", "1 2 3 4", ""},
	{"a b a", "1 2 3 4 5 6", "3 4", ""},
	{"a b b", "1 2 3 4 5 6", "3 4", "1 2"},
	{"a c c b b", "1 2 3 4 5 6 7", "4", "1 2"},
	{"none", "", "", ""},
	{"none none", "", "", ""},
	{"none a", "1 2 3 4", "", ""},
	{"a none", "1 2 3 4", "", "1 2 3 4"},
	{"a none none", "1 2 3 4", "", "1 2 3 4"},
	{"a none b", "1 2 3 4 5 6", "", "1 2"},
	{"a e", `"" 1 2 3 4`, "", "1 2 3 4"},
	{"e e", `""`, `""`, ""},
	{"one c", "4 7", "7", ""},
	{"c one", "4 7", "7", "4"},
}

func TestP13_3_Combinations(t *testing.T) {
	for _, c := range combinations {
		for _, to := range []string{"", "a", "b", "new", "text"} {
			for _, op := range [][2]string{{"SUNION", c.union}, {"SINTER", c.inter}, {"SDIFF", c.diff}} {
				s := made(t, 4000)
				for key, line := range map[string]string{"a": "1 2 3 4", "b": "3 4 5 6", "c": "4 7", "one": "7", "e": `""`} {
					store(t, s, key, setOf(line), deadline)
				}
				store(t, s, "text", others(api.ValSet)[0], deadline)
				if to == "" {
					play(t, s, 0, row{op[0] + " " + c.keys, bulks(op[1])})
					wantChanged(t, s)
					continue
				}
				play(t, s, 0, row{op[0] + "STORE " + to + " " + c.keys, len(words(op[1]))})
				t.Run(fmt.Sprintf("%s/%s/%s", op[0], to, c.keys), func(t *testing.T) {
					if op[1] == "" {
						wantGone(t, s, to)
					} else {
						wantValue(t, s, to, setOf(op[1]))
						wantDeadline(t, s, to, 0)
					}
					if to == "new" && op[1] == "" {
						wantChanged(t, s)
					} else {
						wantChanged(t, s, to)
					}
				})
			}
		}
	}
}

// TestP13_3_WhatLayThereGoes: of whatever kind, with its deadline; but the keys that are combined must be sets.
func TestP13_3_WhatLayThereGoes(t *testing.T) {
	for _, v := range others(api.ValNone) {
		for _, name := range []string{"SUNIONSTORE", "SINTERSTORE", "SDIFFSTORE"} {
			s := made(t, 4000)
			store(t, s, "to", v, deadline)
			store(t, s, "s", setOf("a b"), deadline)
			play(t, s, 0, row{name + " to s", 2})
			wantValue(t, s, "to", setOf("a b"))
			wantDeadline(t, s, "to", 0)
			wantChanged(t, s, "to")
			store(t, s, "to", v, deadline)
			play(t, s, 0, row{name + " to none", 0})
			wantGone(t, s, "to")
			wantChanged(t, s, "to")
			store(t, s, "to", v, deadline)
			if v.Kind != api.ValSet {
				play(t, s, 0, row{name + " to to", api.BadKind}, row{name + " to s to", api.BadKind}, row{name + " s to", api.BadKind}, row{name + " none none to", api.BadKind}, row{name + " to s s none to s", api.BadKind})
				wantValue(t, s, "to", v)
				wantDeadline(t, s, "to", deadline)
			}
		}
	}
}

func TestP13_2_SINTERCARD(t *testing.T) {
	s := made(t, 4000)
	store(t, s, "a", setOf("1 2 3 4"), 0)
	store(t, s, "b", setOf("2 3 4 5"), 0)
	store(t, s, "h", hashOf("1 1"), 0)
	play(t, s, 0,
		row{"SINTERCARD 1 a", 4}, row{"SINTERCARD 2 a b", 3}, row{"SINTERCARD 3 a b a", 3}, row{"SINTERCARD 2 a a", 4}, row{"SINTERCARD 2 a none", 0}, row{"SINTERCARD 1 none", 0},
		row{"SINTERCARD 2 a b LIMIT 0", 3}, row{"SINTERCARD 2 a b LIMIT 1", 1}, row{"SINTERCARD 2 a b LIMIT 2", 2}, row{"SINTERCARD 2 a b LIMIT 3", 3}, row{"SINTERCARD 2 a b LIMIT 4", 3}, row{"SINTERCARD 2 a b LIMIT " + greatest, 3}, row{"SINTERCARD 1 none LIMIT 5", 0}, row{"SINTERCARD 2 a b limit 1", 1},
		row{"SINTERCARD x a", api.BadInt}, row{`SINTERCARD "" a`, api.BadInt}, row{"SINTERCARD 01 a", api.BadInt}, row{"SINTERCARD 9223372036854775808 a", api.BadInt}, row{"SINTERCARD 0 a", api.BadRange}, row{"SINTERCARD -1 a", api.BadRange}, row{"SINTERCARD " + least + " a", api.BadRange},
		row{"SINTERCARD 2 a", api.BadSyntax}, row{"SINTERCARD 3 a b", api.BadSyntax}, row{"SINTERCARD " + greatest + " a b", api.BadSyntax}, row{"SINTERCARD 1 a b", api.BadSyntax}, row{"SINTERCARD 1 a b 1", api.BadSyntax}, row{"SINTERCARD 1 a LIMIT", api.BadSyntax}, row{"SINTERCARD 1 a LIMITS 1", api.BadSyntax}, row{"SINTERCARD 1 a LIMIT 1 1", api.BadSyntax}, row{"SINTERCARD 1 a LIMIT 1 LIMIT 1", api.BadSyntax}, row{`SINTERCARD 1 a ""`, api.BadSyntax},
		row{"SINTERCARD 1 a LIMIT x", api.BadInt}, row{"SINTERCARD 1 a LIMIT x 1", api.BadInt}, row{"SINTERCARD 1 a LIMIT -1", api.BadRange}, row{"SINTERCARD 1 a LIMIT -1 1", api.BadRange}, row{"SINTERCARD 1 a LIMIT 9223372036854775808", api.BadInt},
		// The words of options are keys where keys are meant.
		row{"SINTERCARD 2 a LIMIT", 0}, row{"SINTERCARD 2 a LIMIT LIMIT 1", 0}, row{"SINTERCARD 2 LIMIT 1", 0}, row{"SINTERCARD 3 a LIMIT 1", 0}, row{"SINTERCARD 2 h LIMIT 1", api.BadSyntax}, row{"SINTERCARD 2 a h LIMIT x", api.BadInt}, row{"SINTERCARD 2 a h LIMIT 0", api.BadKind})
}

// TestP13_2_DeadlinesOfSets: a key that is changed keeps its own, one that is made has none.
func TestP13_2_DeadlinesOfSets(t *testing.T) {
	for _, line := range []string{"SADD s a", "SADD s x", "SREM s a", "SREM s x", "SPOP s", "SPOP s 1", "SMOVE s m a", "SMOVE m s q", "SMOVE s s a", "SMEMBERS s", "SSCAN s 0"} {
		s := made(t, 4000)
		store(t, s, "s", setOf("a b"), 40)
		store(t, s, "m", setOf("q r"), 30)
		do(s, 0, line)
		wantDeadline(t, s, "s", 40)
		wantDeadline(t, s, "m", 30)
	}
	s := made(t, 4000)
	store(t, s, "s", setOf("a b"), 40)
	play(t, s, 0, row{"SPOP s 2", bulks("a b")}, row{"SADD s a", 1})
	wantDeadline(t, s, "s", 0)
	play(t, s, 0, row{"SMOVE s m a", 1}, row{"SADD s a", 1})
	wantDeadline(t, s, "s", 0)
	wantDeadline(t, s, "m", 0)
}
