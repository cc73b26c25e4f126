package order_test

import (
	"fmt"
	"strings"
	"testing"

	"larder/api"
	"larder/space"
)

// joined is what the three commands tell of some keys, with scores, under some options (which ZDIFF does not have).
type joined struct{ keys, options, union, inter, diff string }

// joints are over p: 1 a 2 b, q: 3 b 4 c, s: the set b d, e: 5 "", and u: -2 a 7 d.
var joints = []joined{
	{"p", "", "a 1 b 2", "a 1 b 2", "a 1 b 2"},
	{"p q", "", "a 1 c 4 b 5", "b 5", "a 1"},
	{"q p", "", "a 1 c 4 b 5", "b 5", "c 4"},
	{"p q s", "", "a 1 d 1 c 4 b 6", "b 6", "a 1"},
	{"s", "", "b 1 d 1", "b 1 d 1", "b 1 d 1"},
	{"s s", "", "b 2 d 2", "b 2 d 2", ""},
	{"s p", "", "a 1 d 1 b 3", "b 3", "d 1"},
	{"p p", "", "a 2 b 4", "a 2 b 4", ""},
	{"p p p", "", "a 3 b 6", "a 3 b 6", ""},
	{"p q p", "", "a 2 c 4 b 7", "b 7", ""},
	{"p q q", "", "a 1 b 8 c 8", "b 8", "a 1"},
	{"none", "", "", "", ""},
	{"none none", "", "", "", ""},
	{"none p", "", "a 1 b 2", "", ""},
	{"p none", "", "a 1 b 2", "", "a 1 b 2"},
	{"p none q", "", "a 1 c 4 b 5", "", "a 1"},
	{"p e", "", `a 1 b 2 "" 5`, "", "a 1 b 2"},
	{"e e", "", `"" 10`, `"" 10`, ""},
	{"p u", "", "a -1 b 2 d 7", "a -1", "b 2"},
	{"p q", "WEIGHTS 10 -1", "c -4 a 10 b 17", "b 17", "a 1"},
	{"p q", "WEIGHTS 0 0", "a 0 b 0 c 0", "b 0", "a 1"},
	{"q p", "WEIGHTS 10 -1", "a -1 b 28 c 40", "b 28", "c 4"},
	{"p s", "WEIGHTS 1 100", "a 1 d 100 b 102", "b 102", "a 1"},
	{"p p", "WEIGHTS 1 -1", "a 0 b 0", "a 0 b 0", ""},
	{"p p p", "WEIGHTS 1 10 100", "a 111 b 222", "a 111 b 222", ""},
	{"p q", "AGGREGATE SUM", "a 1 c 4 b 5", "b 5", "a 1"},
	{"p q", "AGGREGATE MIN", "a 1 b 2 c 4", "b 2", "a 1"},
	{"p q", "AGGREGATE MAX", "a 1 b 3 c 4", "b 3", "a 1"},
	{"q p u", "aggregate min", "a -2 b 2 c 4 d 7", "", "c 4"},
	{"u p u", "AGGREGATE MAX", "a 1 b 2 d 7", "a 1", ""},
	{"p u", "WEIGHTS 1 -1 AGGREGATE MAX", "d -7 a 2 b 2", "a 2", "b 2"},
	{"p u", "AGGREGATE MIN WEIGHTS -3 1", "b -6 a -3 d 7", "a -3", "b 2"},
	{"p q s", "WEIGHTS 2 2 2 AGGREGATE MIN", "a 2 b 2 d 2 c 8", "b 2", "a 1"},
	{"none p", "WEIGHTS 9 2", "a 2 b 4", "", ""},
}

func jointSpace(t *testing.T) *space.Space {
	t.Helper()
	s := made(t, 4000)
	for key, line := range map[string]string{"p": "1 a 2 b", "q": "3 b 4 c", "e": `5 ""`, "u": "-2 a 7 d"} {
		store(t, s, key, rankOf(line), deadline)
	}
	store(t, s, "s", setOf("b d"), deadline)
	store(t, s, "text", others(api.ValNone)[0], deadline)
	return s
}

// without leaves the scores of a flat list away.
func without(flat string) string {
	var found []string
	for i, w := range strings.Fields(flat) {
		if i%2 == 0 {
			found = append(found, w)
		}
	}
	return strings.Join(found, " ")
}

// turned is a flat list as the line of a ranked set, each score ahead of its member.
func turned(flat string) string {
	l := strings.Fields(flat)
	for i := 0; i < len(l); i += 2 {
		l[i], l[i+1] = l[i+1], l[i]
	}
	return strings.Join(l, " ")
}

func TestP14_14_and_15_Told(t *testing.T) {
	for _, c := range joints {
		s := jointSpace(t)
		before, keys := picture(s), fmt.Sprint(len(strings.Fields(c.keys)), " ", c.keys)
		play(t, s, 0,
			row{fmt.Sprintf("ZUNION %s %s", keys, c.options), bulks(without(c.union))}, row{fmt.Sprintf("ZUNION %s WITHSCORES %s", keys, c.options), bulks(c.union)}, row{fmt.Sprintf("zunion %s %s withscores", keys, c.options), bulks(c.union)},
			row{fmt.Sprintf("ZINTER %s %s", keys, c.options), bulks(without(c.inter))}, row{fmt.Sprintf("ZINTER %s %s WITHSCORES", keys, c.options), bulks(c.inter)}, row{fmt.Sprintf("ZINTER %s WITHSCORES %s", keys, c.options), bulks(c.inter)},
			row{"ZDIFF " + keys, bulks(without(c.diff))}, row{"ZDIFF " + keys + " WITHSCORES", bulks(c.diff)})
		if picture(s) != before || len(s.Changed()) != 0 {
			t.Errorf("%s: something has changed", c.keys)
		}
	}
}

func TestP14_16_Stored(t *testing.T) {
	for _, c := range joints {
		keys := fmt.Sprint(len(strings.Fields(c.keys)), " ", c.keys)
		for _, to := range []string{"p", "s", "new", "text"} {
			for _, op := range [][2]string{{"ZUNIONSTORE %s %s " + c.options, c.union}, {"ZINTERSTORE %s %s " + c.options, c.inter}, {"ZDIFFSTORE %s %s", c.diff}} {
				s, line := jointSpace(t), fmt.Sprintf(op[0], to, keys)
				play(t, s, 0, row{line, len(strings.Fields(op[1])) / 2})
				t.Run(line, func(t *testing.T) {
					if op[1] == "" {
						wantGone(t, s, to)
					} else {
						wantValue(t, s, to, rankOf(turned(op[1])))
						wantDeadline(t, s, to, 0)
					}
					if to == "new" && op[1] == "" {
						wantChanged(t, s)
					} else {
						wantChanged(t, s, to)
					}
					wantRoom(t, s)
				})
			}
		}
	}
}

// TestP14_16_WhatLayThereGoes: of whatever kind, with its deadline; but the keys that are combined must be sets or ranked sets.
func TestP14_16_WhatLayThereGoes(t *testing.T) {
	for _, v := range others(api.ValNone) {
		for _, name := range []string{"ZUNIONSTORE", "ZINTERSTORE", "ZDIFFSTORE"} {
			s := made(t, 4000)
			store(t, s, "to", v, deadline)
			store(t, s, "z", rankOf("1 a 2 b"), deadline)
			play(t, s, 0, row{name + " to 1 z", 2})
			wantValue(t, s, "to", rankOf("1 a 2 b"))
			wantDeadline(t, s, "to", 0)
			wantChanged(t, s, "to")
			store(t, s, "to", v, deadline)
			play(t, s, 0, row{name + " to 1 none", 0})
			wantGone(t, s, "to")
			wantChanged(t, s, "to")
			store(t, s, "to", v, deadline)
			if v.Kind != api.ValSet && v.Kind != api.ValRank {
				play(t, s, 0, row{name + " to 1 to", api.BadKind}, row{name + " to 2 z to", api.BadKind}, row{name + " z 1 to", api.BadKind}, row{name + " none 2 none to", api.BadKind}, row{name + " to 5 z z none to z", api.BadKind}, row{name[:len(name)-5] + " 1 to", api.BadKind}, row{name[:len(name)-5] + " 2 none to WITHSCORES", api.BadKind}, row{"ZINTERCARD 2 z to", api.BadKind}, row{"ZINTERCARD 2 none to LIMIT 1", api.BadKind})
				wantValue(t, s, "to", v)
				wantDeadline(t, s, "to", deadline)
				continue
			}
			play(t, s, 0, row{name + " to 1 to", 1})
			wantValue(t, s, "to", rankOf("1 x"))
			wantDeadline(t, s, "to", 0)
		}
	}
}

// TestP14_14_NoInt64: a product, or a sum of the first products, of a member that is in the result.
func TestP14_14_NoInt64(t *testing.T) {
	s := made(t, 4000)
	store(t, s, "m", rankOf(greatest+" x"), 0)
	store(t, s, "k", rankOf(least+" x"), 0)
	store(t, s, "w", rankOf("4294967296 x 3 y"), 0)
	store(t, s, "o", rankOf("1 x"), 0)
	store(t, s, "p", rankOf("1 a 2 b"), 0)
	store(t, s, "s", setOf("x z"), 0)
	for _, c := range []row{
		{"1 m", "x " + greatest}, {"1 k", "x " + least}, {"1 k WEIGHTS 1", "x " + least}, {"1 k WEIGHTS 0", "x 0"}, {"1 m WEIGHTS -1", "x -9223372036854775807"}, {"1 m WEIGHTS 0", "x 0"},
		{"1 k WEIGHTS -1", api.BadOver}, {"1 m WEIGHTS 2", api.BadOver}, {"1 m WEIGHTS -2", api.BadOver}, {"1 k WEIGHTS 2", api.BadOver}, {"1 m WEIGHTS " + greatest, api.BadOver}, {"1 k WEIGHTS " + least, api.BadOver}, {"1 m WEIGHTS " + least, api.BadOver}, {"1 k WEIGHTS " + greatest, api.BadOver},
		{"1 o WEIGHTS " + least, "x " + least}, {"1 o WEIGHTS " + greatest, "x " + greatest}, {"2 s s WEIGHTS " + greatest + " " + least, "x -1 z -1"},
		{"1 w WEIGHTS 4294967296", api.BadOver}, {"1 w WEIGHTS 2147483648", api.BadOver}, {"1 w WEIGHTS 2147483647", "y 6442450941 x 9223372032559808512"}, {"1 w WEIGHTS -2147483648", "x " + least + " y -6442450944"}, {"1 w WEIGHTS -2147483649", api.BadOver},
		{"2 m m", api.BadOver}, {"2 k k", api.BadOver}, {"2 m o", api.BadOver}, {"2 o m", api.BadOver}, {"2 m s", api.BadOver}, {"2 m o WEIGHTS 1 0", "x " + greatest}, {"2 m o WEIGHTS 1 -1", "x 9223372036854775806"}, {"2 m k", "x -1"}, {"2 k o WEIGHTS 1 -1", api.BadOver}, {"2 k m", "x -1"},
		// Of three, the sum of the first two counts, be it that the third would bring it back.
		{"3 m m m WEIGHTS 1 1 -1", api.BadOver}, {"3 m m m WEIGHTS 1 -1 1", "x " + greatest}, {"3 m m k", api.BadOver}, {"3 m k m", "x 9223372036854775806"}, {"3 k m k", api.BadOver}, {"3 k k m", api.BadOver},
		// No sum is made with MIN and MAX, but products are.
		{"2 m m AGGREGATE MIN", "x " + greatest}, {"2 m m AGGREGATE MAX", "x " + greatest}, {"2 k m AGGREGATE MIN", "x " + least}, {"2 k m AGGREGATE MAX", "x " + greatest}, {"2 m o WEIGHTS 2 1 AGGREGATE MIN", api.BadOver}, {"2 o k WEIGHTS 1 -1 AGGREGATE MIN", api.BadOver}, {"2 o m WEIGHTS 1 2 AGGREGATE MAX", api.BadOver},
	} {
		want := c.want
		if flat, fine := want.(string); fine {
			want = bulks(flat)
		}
		before := picture(s)
		play(t, s, 0, row{"ZUNION " + c.line + " WITHSCORES", want})
		if c.want == api.BadOver {
			play(t, s, 0, row{"ZUNION " + c.line, want}, row{"ZUNIONSTORE d " + c.line, want}, row{"ZUNIONSTORE m " + c.line, want})
			if !strings.Contains(c.line, "w") {
				play(t, s, 0, row{"ZINTER " + c.line, want}, row{"ZINTERSTORE o " + c.line, want})
			}
		}
		if picture(s) != before {
			t.Errorf("%s: something has changed", c.line)
		}
	}
	// Of members that are not in the result nothing is asked, nor of scores that are not told.
	play(t, s, 0,
		row{"ZINTER 2 m p WEIGHTS 2 1", "[]"}, row{"ZINTERSTORE d 2 m p WEIGHTS 2 1", 0}, row{"ZINTER 2 w o WEIGHTS 1 " + greatest, api.BadOver}, row{"ZINTER 3 m m p", "[]"}, row{"ZINTERCARD 2 m m", 1}, row{"ZINTERCARD 3 k k k", 1}, row{"ZDIFF 3 m p p WITHSCORES", bulks("x " + greatest)}, row{"ZDIFF 2 m m", "[]"}, row{"ZDIFFSTORE d 2 m p", 1}, row{"ZINTER 2 m none WEIGHTS 2 2", "[]"})
}

func TestP14_14_to_16_WrongArguments(t *testing.T) {
	s := jointSpace(t)
	for _, c := range []row{
		{"0 p", api.BadRange}, {"-1 p", api.BadRange}, {least + " p", api.BadRange}, {"0 p x", api.BadRange}, {"x p", api.BadInt}, {`"" p`, api.BadInt}, {"1.5 p", api.BadInt}, {"9223372036854775808 p", api.BadInt}, {"p 1", api.BadInt}, {"x p x", api.BadInt},
		{"2 p", api.BadSyntax}, {"3 p q", api.BadSyntax}, {greatest + " p q", api.BadSyntax}, {"1 p q", api.BadSyntax}, {`1 p ""`, api.BadSyntax}, {"1 p WITHSCORE", api.BadSyntax}, {"1 p LIMIT 1", api.BadSyntax}, {"1 p 1", api.BadSyntax}, {"1 p x WITHSCORES", api.BadSyntax},
		{"2 p WEIGHTS", nil}, {"2 p WITHSCORES", nil}, {"1 text x", api.BadSyntax}, {"2 text", api.BadSyntax},
	} {
		for _, name := range []string{"ZUNION", "ZINTER", "ZDIFF", "ZINTERCARD", "ZUNIONSTORE d", "ZINTERSTORE p", "ZDIFFSTORE text"} {
			want := c.want
			if name == "ZINTERCARD" && c.line == "1 p LIMIT 1" {
				want = 1
			}
			if want == nil {
				// The words of options are keys where keys are meant.
				if got := told(do(s, 0, name+" "+c.line)); got[0] == '-' {
					t.Errorf("%s %s: %s", name, c.line, got)
				}
				s = jointSpace(t)
				continue
			}
			play(t, s, 0, row{name + " " + c.line, want})
		}
	}
	for _, c := range []row{
		{"2 p q WEIGHTS", api.BadSyntax}, {"2 p q WEIGHTS 1", api.BadSyntax}, {"2 p q WEIGHTS x", api.BadSyntax}, {"2 p q AGGREGATE MAX WEIGHTS 1", api.BadSyntax}, {"2 p q WEIGHTS 1 2 3", api.BadSyntax}, {"2 p q WEIGHTS 1 2 WEIGHTS 1 2", api.BadSyntax}, {"2 p q WEIGHTS 1 2 WEIGHTS x y", api.BadSyntax}, {"2 p text WEIGHTS 1", api.BadSyntax},
		{"2 p q WEIGHTS x 1", api.BadInt}, {"2 p q WEIGHTS 1 x", api.BadInt}, {"2 p q WEIGHTS 1 1.5", api.BadInt}, {"2 p q WEIGHTS 1 9223372036854775808", api.BadInt}, {"2 p q WEIGHTS 1 AGGREGATE", api.BadInt}, {"2 p q WEIGHTS 1 AGGREGATE MAX", api.BadInt}, {"2 p q WEIGHTS 1 x x", api.BadInt}, {"1 text WEIGHTS x", api.BadInt},
		{"2 p q AGGREGATE", api.BadSyntax}, {"2 p q AGGREGATE AVG", api.BadSyntax}, {`2 p q AGGREGATE ""`, api.BadSyntax}, {"2 p q AGGREGATE SUM SUM", api.BadSyntax}, {"2 p q AGGREGATE SUM AGGREGATE SUM", api.BadSyntax}, {"2 p q AGGREGATE AGGREGATE SUM", api.BadSyntax}, {"2 p q AGGREGATE AVG WEIGHTS x y", api.BadSyntax}, {"2 p q WEIGHTS x y AGGREGATE AVG", api.BadInt}, {"2 p q x AGGREGATE AVG", api.BadSyntax},
		{"2 p text", api.BadKind}, {"2 text p WEIGHTS 1 2 AGGREGATE MAX", api.BadKind}, {"2 none text", api.BadKind},
	} {
		for _, name := range []string{"ZUNION", "ZINTER", "ZUNIONSTORE d", "ZINTERSTORE text"} {
			play(t, s, 0, row{name + " " + c.line, c.want})
		}
	}
	play(t, s, 0,
		row{"ZUNION 1 p WITHSCORES WITHSCORES", api.BadSyntax}, row{"ZINTER 1 p WITHSCORES WEIGHTS 1 WITHSCORES", api.BadSyntax}, row{"ZDIFF 1 p WITHSCORES WITHSCORES", api.BadSyntax}, row{"ZDIFF 1 p WITHSCORES x", api.BadSyntax}, row{"ZDIFF 1 p WEIGHTS 1", api.BadSyntax}, row{"ZDIFF 1 p AGGREGATE SUM", api.BadSyntax},
		row{"ZUNIONSTORE d 1 p WITHSCORES", api.BadSyntax}, row{"ZINTERSTORE d 1 p WITHSCORES", api.BadSyntax}, row{"ZDIFFSTORE d 1 p WITHSCORES", api.BadSyntax}, row{"ZUNIONSTORE d 1 p WEIGHTS 1 WITHSCORES", api.BadSyntax}, row{"ZDIFFSTORE d 1 p WEIGHTS 1", api.BadSyntax}, row{"ZDIFFSTORE d 1 p AGGREGATE SUM", api.BadSyntax}, row{"ZUNIONSTORE d 1", api.BadArity}, row{"ZDIFFSTORE d p 1", api.BadInt})
}

func TestP14_17_ZINTERCARD(t *testing.T) {
	s := made(t, 4000)
	store(t, s, "a", rankOf("1 1 2 2 3 3 4 4"), 0)
	store(t, s, "b", rankOf("9 2 8 3 7 4 6 5"), 0)
	store(t, s, "s", setOf("3 4 5"), 0)
	store(t, s, "t", others(api.ValNone)[0], 0)
	play(t, s, 0,
		row{"ZINTERCARD 1 a", 4}, row{"ZINTERCARD 2 a b", 3}, row{"ZINTERCARD 3 a b a", 3}, row{"ZINTERCARD 2 a a", 4}, row{"ZINTERCARD 3 a b s", 2}, row{"ZINTERCARD 1 s", 3}, row{"ZINTERCARD 2 a none", 0}, row{"ZINTERCARD 1 none", 0},
		row{"ZINTERCARD 2 a b LIMIT 0", 3}, row{"ZINTERCARD 2 a b LIMIT 1", 1}, row{"ZINTERCARD 2 a b LIMIT 2", 2}, row{"ZINTERCARD 2 a b LIMIT 3", 3}, row{"ZINTERCARD 2 a b LIMIT 4", 3}, row{"ZINTERCARD 2 a b LIMIT " + greatest, 3}, row{"ZINTERCARD 1 none LIMIT 5", 0}, row{"ZINTERCARD 2 a b limit 1", 1},
		row{"ZINTERCARD 1 a LIMIT", api.BadSyntax}, row{"ZINTERCARD 1 a LIMITS 1", api.BadSyntax}, row{"ZINTERCARD 1 a LIMIT 1 1", api.BadSyntax}, row{"ZINTERCARD 1 a LIMIT 1 LIMIT 1", api.BadSyntax}, row{"ZINTERCARD 1 a WEIGHTS 1", api.BadSyntax}, row{"ZINTERCARD 1 a AGGREGATE SUM", api.BadSyntax}, row{"ZINTERCARD 1 a WITHSCORES", api.BadSyntax},
		row{"ZINTERCARD 1 a LIMIT x", api.BadInt}, row{"ZINTERCARD 1 a LIMIT x 1", api.BadInt}, row{"ZINTERCARD 1 a LIMIT -1", api.BadRange}, row{"ZINTERCARD 1 a LIMIT -1 1", api.BadRange}, row{"ZINTERCARD 1 a LIMIT " + least, api.BadRange}, row{"ZINTERCARD 1 a LIMIT 9223372036854775808", api.BadInt},
		row{"ZINTERCARD 2 a LIMIT", 0}, row{"ZINTERCARD 3 a LIMIT 1", 0}, row{"ZINTERCARD 2 a t LIMIT x", api.BadInt}, row{"ZINTERCARD 2 a t LIMIT -1", api.BadRange}, row{"ZINTERCARD 2 a t LIMIT 0", api.BadKind}, row{"ZINTERCARD 2 t a", api.BadKind})
	wantChanged(t, s)
}
