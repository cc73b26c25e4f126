package rows_test

import (
	"fmt"
	"strings"
	"testing"

	"larder/api"
)

const (
	greatest = "9223372036854775807"
	least    = "-9223372036854775808"
)

func TestP12_2_Pushes(t *testing.T) {
	playAll(t,
		turn{"", "LPUSH l a", 1, "a"}, turn{"", "RPUSH l a", 1, "a"},
		turn{"", "LPUSH l a b c", 3, "c b a"}, turn{"", "RPUSH l a b c", 3, "a b c"},
		turn{"x y", "LPUSH l a b a", 5, "a b a x y"}, turn{"x y", "RPUSH l a b a", 5, "x y a b a"},
		turn{"x", `LPUSH l ""`, 2, `"" x`}, turn{"x", `RPUSH l "" ""`, 3, `x "" ""`},
		turn{"x", `RPUSH l "\x00\xff\r\n" "` + `\x20` + `"`, 3, `x "\x00\xff\r\n" "\x20"`},
		turn{"", "LPUSHX l a", 0, ""}, turn{"", "RPUSHX l a b", 0, ""},
		turn{"x y", "LPUSHX l a b", 4, "b a x y"}, turn{"x y", "RPUSHX l a b", 4, "x y a b"},
	)
}

func TestP12_2_Pops(t *testing.T) {
	playAll(t,
		turn{"a b c", "LPOP l", `"a"`, "b c"}, turn{"a b c", "RPOP l", `"c"`, "a b"}, turn{"a", "LPOP l", `"a"`, ""}, turn{"a", "RPOP l", `"a"`, ""}, turn{`"" a`, "LPOP l", `""`, "a"},
		turn{"", "LPOP l", "nil", ""}, turn{"", "RPOP l", "nil", ""},
		turn{"a b c", "LPOP l 1", `["a"]`, "b c"}, turn{"a b c", "RPOP l 1", `["c"]`, "a b"}, turn{"a b c", "LPOP l 2", `["a" "b"]`, "c"}, turn{"a b c", "RPOP l 2", `["c" "b"]`, "a"},
		turn{"a b c", "LPOP l 3", `["a" "b" "c"]`, ""}, turn{"a b c", "RPOP l 3", `["c" "b" "a"]`, ""}, turn{"a b c", "LPOP l 4", `["a" "b" "c"]`, ""}, turn{"a b c", "RPOP l " + greatest, `["c" "b" "a"]`, ""},
		turn{"a b", "LPOP l 0", "[]", "a b"}, turn{"a b", "RPOP l 0", "[]", "a b"},
		turn{"", "LPOP l 0", "nil array", ""}, turn{"", "RPOP l 0", "nil array", ""}, turn{"", "LPOP l 1", "nil array", ""}, turn{"", "RPOP l 5", "nil array", ""},
		turn{"a", "LPOP l -1", api.BadRange, "a"}, turn{"a", "RPOP l " + least, api.BadRange, "a"}, turn{"", "RPOP l -1", api.BadRange, ""},
		turn{"a", "LPOP l x", api.BadInt, "a"}, turn{"a", `RPOP l ""`, api.BadInt, "a"}, turn{"a", "LPOP l 1.0", api.BadInt, "a"}, turn{"a", "LPOP l 9223372036854775808", api.BadInt, "a"}, turn{"a", "RPOP l 01", api.BadInt, "a"}, turn{"a", "RPOP l -0", api.BadInt, "a"},
		turn{"a", "LPOP l 1 1", api.BadSyntax, "a"}, turn{"a", "RPOP l 0 COUNT 1", api.BadSyntax, "a"}, turn{"", "LPOP l 1 1", api.BadSyntax, ""},
	)
}

func TestP12_2_Reads(t *testing.T) {
	const l = "a b c d"
	playAll(t,
		turn{l, "LLEN l", 4, l}, turn{"a", "LLEN l", 1, "a"}, turn{"", "LLEN l", 0, ""},
		turn{l, "LRANGE l 0 -1", `["a" "b" "c" "d"]`, l}, turn{l, "LRANGE l 1 2", `["b" "c"]`, l}, turn{l, "LRANGE l 2 2", `["c"]`, l}, turn{l, "LRANGE l -2 -1", `["c" "d"]`, l}, turn{l, "LRANGE l -4 0", `["a"]`, l}, turn{l, "LRANGE l -9 1", `["a" "b"]`, l}, turn{l, "LRANGE l 3 9", `["d"]`, l}, turn{l, "LRANGE l " + least + " " + greatest, `["a" "b" "c" "d"]`, l},
		turn{l, "LRANGE l 2 1", "[]", l}, turn{l, "LRANGE l 4 9", "[]", l}, turn{l, "LRANGE l 0 -5", "[]", l}, turn{l, "LRANGE l " + greatest + " " + least, "[]", l}, turn{"", "LRANGE l 0 -1", "[]", ""},
		turn{l, "LRANGE l a 1", api.BadInt, l}, turn{l, "LRANGE l 0 1.5", api.BadInt, l}, turn{"", "LRANGE l 0 --1", api.BadInt, ""},
		turn{l, "LINDEX l 0", `"a"`, l}, turn{l, "LINDEX l 1", `"b"`, l}, turn{l, "LINDEX l 3", `"d"`, l}, turn{l, "LINDEX l -1", `"d"`, l}, turn{l, "LINDEX l -4", `"a"`, l}, turn{`a ""`, "LINDEX l 1", `""`, `a ""`},
		turn{l, "LINDEX l 4", "nil", l}, turn{l, "LINDEX l -5", "nil", l}, turn{l, "LINDEX l " + greatest, "nil", l}, turn{l, "LINDEX l " + least, "nil", l}, turn{"", "LINDEX l 0", "nil", ""}, turn{"", "LINDEX l -1", "nil", ""},
		turn{l, "LINDEX l x", api.BadInt, l}, turn{"", "LINDEX l 0x1", api.BadInt, ""},
	)
}

func TestP12_2_Edits(t *testing.T) {
	const l = "a b a c a"
	playAll(t,
		turn{"a b c", "LSET l 0 x", "OK", "x b c"}, turn{"a b c", "LSET l 1 x", "OK", "a x c"}, turn{"a b c", "LSET l 2 x", "OK", "a b x"}, turn{"a b c", "LSET l -1 x", "OK", "a b x"}, turn{"a b c", "LSET l -3 x", "OK", "x b c"}, turn{"a b c", `LSET l 1 ""`, "OK", `a "" c`}, turn{"a b c", "LSET l 1 b", "OK", "a b c"},
		turn{"a b c", "LSET l 3 x", api.BadRange, "a b c"}, turn{"a b c", "LSET l -4 x", api.BadRange, "a b c"}, turn{"a b c", "LSET l " + greatest + " x", api.BadRange, "a b c"}, turn{"a b c", "LSET l " + least + " x", api.BadRange, "a b c"}, turn{"", "LSET l 0 x", api.BadKey, ""}, turn{"", "LSET l 99 x", api.BadKey, ""}, turn{"a", "LSET l a x", api.BadInt, "a"}, turn{"", "LSET l a x", api.BadInt, ""},

		turn{"b c", "LINSERT l BEFORE b z", 3, "z b c"}, turn{"b c", "LINSERT l BEFORE c z", 3, "b z c"}, turn{"b c", "LINSERT l AFTER b z", 3, "b z c"}, turn{"b c", "LINSERT l AFTER c z", 3, "b c z"}, turn{l, "LINSERT l BEFORE a z", 6, "z a b a c a"}, turn{l, "LINSERT l AFTER a z", 6, "a z b a c a"}, turn{`a ""`, `LINSERT l BEFORE "" ""`, 3, `a "" ""`},
		turn{"b c", "LINSERT l BEFORE z z", -1, "b c"}, turn{"b c", "LINSERT l AFTER B z", -1, "b c"}, turn{"", "LINSERT l BEFORE b z", 0, ""}, turn{"b c", "LINSERT l BEHIND b z", api.BadSyntax, "b c"}, turn{"", `LINSERT l "" b z`, api.BadSyntax, ""},

		turn{l, "LREM l 0 a", 3, "b c"}, turn{l, "LREM l 1 a", 1, "b a c a"}, turn{l, "LREM l 2 a", 2, "b c a"}, turn{l, "LREM l 3 a", 3, "b c"}, turn{l, "LREM l 4 a", 3, "b c"}, turn{l, "LREM l " + greatest + " a", 3, "b c"},
		turn{l, "LREM l -1 a", 1, "a b a c"}, turn{l, "LREM l -2 a", 2, "a b c"}, turn{l, "LREM l -3 a", 3, "b c"}, turn{l, "LREM l -4 a", 3, "b c"}, turn{l, "LREM l " + least + " a", 3, "b c"},
		turn{"a a", "LREM l 0 a", 2, ""}, turn{"a a", "LREM l -2 a", 2, ""}, turn{l, "LREM l 0 x", 0, l}, turn{l, "LREM l 5 A", 0, l}, turn{"", "LREM l 0 a", 0, ""}, turn{`"" a ""`, `LREM l -1 ""`, 1, `"" a`}, turn{l, "LREM l a a", api.BadInt, l}, turn{"", "LREM l 1.5 a", api.BadInt, ""},

		turn{"a b c d", "LTRIM l 0 -1", "OK", "a b c d"}, turn{"a b c d", "LTRIM l 1 2", "OK", "b c"}, turn{"a b c d", "LTRIM l 1 -1", "OK", "b c d"}, turn{"a b c d", "LTRIM l 0 -2", "OK", "a b c"}, turn{"a b c d", "LTRIM l -2 -2", "OK", "c"}, turn{"a b c d", "LTRIM l " + least + " " + greatest, "OK", "a b c d"}, turn{"a b c d", "LTRIM l -9 0", "OK", "a"},
		turn{"a b c d", "LTRIM l 2 1", "OK", ""}, turn{"a b c d", "LTRIM l 4 9", "OK", ""}, turn{"a b c d", "LTRIM l 0 -5", "OK", ""}, turn{"", "LTRIM l 0 -1", "OK", ""}, turn{"a", "LTRIM l 0 x", api.BadInt, "a"}, turn{"a", "LTRIM l x 0", api.BadInt, "a"}, turn{"", "LTRIM l x 0", api.BadInt, ""},
	)
}

func TestP12_2_Moves(t *testing.T) {
	s := made(t, 4000)
	for _, c := range []struct{ words, moved, source, destination string }{
		{"LEFT LEFT", "1", "2 3", "1 8 9"}, {"LEFT RIGHT", "1", "2 3", "8 9 1"}, {"RIGHT LEFT", "3", "1 2", "3 8 9"}, {"RIGHT RIGHT", "3", "1 2", "8 9 3"}, {"right Left", "3", "1 2", "3 8 9"}, {"", "3", "1 2", "3 8 9"},
	} {
		store(t, s, "a", listOf("1 2 3"), 40)
		store(t, s, "b", listOf("8 9"), 60)
		line := "LMOVE a b " + c.words
		if c.words == "" {
			line = "RPOPLPUSH a b"
		}
		play(t, s, 0, row{line, `"` + c.moved + `"`})
		wantList(t, s, "a", c.source)
		wantList(t, s, "b", c.destination)
		wantDeadline(t, s, "a", 40)
		wantDeadline(t, s, "b", 60)
		wantChanged(t, s, "a", "b")
	}
	playAll(t,
		turn{"1 2 3", "LMOVE l l LEFT RIGHT", `"1"`, "2 3 1"}, turn{"1 2 3", "LMOVE l l RIGHT LEFT", `"3"`, "3 1 2"}, turn{"1 2 3", "LMOVE l l LEFT LEFT", `"1"`, "1 2 3"}, turn{"1 2 3", "LMOVE l l RIGHT RIGHT", `"3"`, "1 2 3"}, turn{"1 2 3", "RPOPLPUSH l l", `"3"`, "3 1 2"},
		turn{"1", "LMOVE l l LEFT RIGHT", `"1"`, "1"}, turn{"1", "LMOVE l l RIGHT RIGHT", `"1"`, "1"}, turn{"1", "RPOPLPUSH l l", `"1"`, "1"}, turn{"7 7 7", "LMOVE l l LEFT RIGHT", `"7"`, "7 7 7"},
		turn{"1", "LMOVE l m LEFT RIGHT", `"1"`, ""}, turn{"", "LMOVE m l LEFT RIGHT", `"q"`, "q"}, turn{"", "RPOPLPUSH m l", `"r"`, "r"}, turn{`""`, "RPOPLPUSH l m", `""`, ""},
		turn{"", "LMOVE l m LEFT LEFT", "nil", ""}, turn{"", "RPOPLPUSH l m", "nil", ""}, turn{"1", "LMOVE none l LEFT LEFT", "nil", "1"}, turn{"", "LMOVE l l LEFT RIGHT", "nil", ""},
		turn{"", "LMOVE l t LEFT LEFT", api.BadKind, ""}, turn{"1", "RPOPLPUSH l t", api.BadKind, "1"}, turn{"1", "LMOVE t l LEFT LEFT", api.BadKind, "1"},
		turn{"1", "LMOVE l m UP LEFT", api.BadSyntax, "1"}, turn{"1", "LMOVE l m LEFT UP", api.BadSyntax, "1"}, turn{"1", `LMOVE l m "" LEFT`, api.BadSyntax, "1"}, turn{"1", "LMOVE l m LEFT LEFTT", api.BadSyntax, "1"}, turn{"", "LMOVE l m 1 2", api.BadSyntax, ""},
	)
}

func TestP12_3_LPOS(t *testing.T) {
	const l = "a b c a b a"
	playAll(t,
		turn{l, "LPOS l a", 0, l}, turn{l, "LPOS l b", 1, l}, turn{l, "LPOS l z", "nil", l}, turn{l, "LPOS l A", "nil", l}, turn{`a ""`, `LPOS l ""`, 1, `a ""`},
		turn{l, "LPOS l a RANK 1", 0, l}, turn{l, "LPOS l a RANK 2", 3, l}, turn{l, "LPOS l a RANK 3", 5, l}, turn{l, "LPOS l a RANK 4", "nil", l}, turn{l, "LPOS l a RANK " + greatest, "nil", l},
		turn{l, "LPOS l a RANK -1", 5, l}, turn{l, "LPOS l a RANK -2", 3, l}, turn{l, "LPOS l a RANK -3", 0, l}, turn{l, "LPOS l a RANK -4", "nil", l}, turn{l, "LPOS l a RANK " + least, "nil", l}, turn{l, "LPOS l a RANK -9223372036854775807", "nil", l},
		turn{l, "LPOS l a COUNT 0", "[0 3 5]", l}, turn{l, "LPOS l a COUNT 1", "[0]", l}, turn{l, "LPOS l a COUNT 2", "[0 3]", l}, turn{l, "LPOS l a COUNT 3", "[0 3 5]", l}, turn{l, "LPOS l a COUNT 4", "[0 3 5]", l}, turn{l, "LPOS l a COUNT " + greatest, "[0 3 5]", l}, turn{l, "LPOS l z COUNT 0", "[]", l}, turn{l, "LPOS l z COUNT 3", "[]", l},
		turn{l, "LPOS l a RANK 2 COUNT 0", "[3 5]", l}, turn{l, "LPOS l a COUNT 1 RANK 2", "[3]", l}, turn{l, "LPOS l a RANK -1 COUNT 0", "[5 3 0]", l}, turn{l, "LPOS l a RANK -2 COUNT 1", "[3]", l}, turn{l, "LPOS l a RANK -2 COUNT 0", "[3 0]", l}, turn{l, "LPOS l a RANK 4 COUNT 0", "[]", l}, turn{l, "LPOS l a RANK " + least + " COUNT 0", "[]", l},
		turn{l, "LPOS l a MAXLEN 0", 0, l}, turn{l, "LPOS l a MAXLEN 1", 0, l}, turn{l, "LPOS l b MAXLEN 1", "nil", l}, turn{l, "LPOS l b MAXLEN 2", 1, l}, turn{l, "LPOS l a MAXLEN 3 COUNT 0", "[0]", l}, turn{l, "LPOS l a MAXLEN 4 COUNT 0", "[0 3]", l}, turn{l, "LPOS l a COUNT 0 MAXLEN 6", "[0 3 5]", l}, turn{l, "LPOS l a COUNT 0 MAXLEN 7", "[0 3 5]", l}, turn{l, "LPOS l a COUNT 0 MAXLEN " + greatest, "[0 3 5]", l}, turn{l, "LPOS l a MAXLEN 0 COUNT 0", "[0 3 5]", l},
		turn{l, "LPOS l a RANK -1 MAXLEN 1", 5, l}, turn{l, "LPOS l b RANK -1 MAXLEN 1", "nil", l}, turn{l, "LPOS l b RANK -1 MAXLEN 2", 4, l}, turn{l, "LPOS l a MAXLEN 3 COUNT 0 RANK -1", "[5 3]", l}, turn{l, "LPOS l a RANK 2 MAXLEN 3", "nil", l}, turn{l, "LPOS l a rank -2 maxlen 3 count 9", "[3]", l}, turn{l, "LPOS l a RANK -2 MAXLEN 2 COUNT 9", "[]", l},
		turn{"", "LPOS l a", "nil", ""}, turn{"", "LPOS l a RANK -5 MAXLEN 3", "nil", ""}, turn{"", "LPOS l a COUNT 0", "[]", ""}, turn{"", "LPOS l a COUNT 5 RANK 2", "[]", ""},
	)
	for _, list := range []string{"", l} {
		playAll(t,
			turn{list, "LPOS l a RANK 0", api.BadRange, list}, turn{list, "LPOS l a COUNT -1", api.BadRange, list}, turn{list, "LPOS l a MAXLEN -1", api.BadRange, list}, turn{list, "LPOS l a MAXLEN " + least, api.BadRange, list},
			turn{list, "LPOS l a RANK x", api.BadInt, list}, turn{list, "LPOS l a COUNT 1.5", api.BadInt, list}, turn{list, "LPOS l a MAXLEN 9223372036854775808", api.BadInt, list}, turn{list, "LPOS l a RANK COUNT 1", api.BadInt, list},
			turn{list, "LPOS l a RANK", api.BadSyntax, list}, turn{list, "LPOS l a COUNT", api.BadSyntax, list}, turn{list, "LPOS l a MAXLEN", api.BadSyntax, list}, turn{list, "LPOS l a RANK 1 COUNT", api.BadSyntax, list},
			turn{list, "LPOS l a RANK 1 RANK 1", api.BadSyntax, list}, turn{list, "LPOS l a COUNT 1 COUNT 1", api.BadSyntax, list}, turn{list, "LPOS l a COUNT 0 count 0", api.BadSyntax, list}, turn{list, "LPOS l a MAXLEN 0 RANK 1 MAXLEN 0", api.BadSyntax, list}, turn{list, "LPOS l a RANK 1 RANK x", api.BadSyntax, list},
			turn{list, "LPOS l a b", api.BadSyntax, list}, turn{list, "LPOS l a RANK 1 2", api.BadSyntax, list}, turn{list, `LPOS l a "" 1`, api.BadSyntax, list}, turn{list, "LPOS l a MAX 1", api.BadSyntax, list})
	}
}

func TestP12_4_LMPOP(t *testing.T) {
	playAll(t,
		turn{"a b c", "LMPOP 1 l LEFT", `["l" ["a"]]`, "b c"}, turn{"a b c", "LMPOP 1 l RIGHT", `["l" ["c"]]`, "a b"}, turn{"a b c", "LMPOP 1 l LEFT COUNT 1", `["l" ["a"]]`, "b c"}, turn{"a b c", "LMPOP 1 l LEFT COUNT 2", `["l" ["a" "b"]]`, "c"}, turn{"a b c", "LMPOP 1 l RIGHT COUNT 2", `["l" ["c" "b"]]`, "a"}, turn{"a b c", "LMPOP 1 l LEFT COUNT 3", `["l" ["a" "b" "c"]]`, ""}, turn{"a b c", "LMPOP 1 l right count 4", `["l" ["c" "b" "a"]]`, ""}, turn{"a b c", "LMPOP 1 l LEFT COUNT " + greatest, `["l" ["a" "b" "c"]]`, ""}, turn{`""`, "LMPOP 1 l LEFT", `["l" [""]]`, ""},
		turn{"a b", "LMPOP 2 l m LEFT", `["l" ["a"]]`, "b"}, turn{"a b", "LMPOP 2 m l LEFT", `["m" ["q"]]`, "a b"}, turn{"a b", "LMPOP 3 none l m RIGHT COUNT 9", `["l" ["b" "a"]]`, ""}, turn{"", "LMPOP 3 none l m RIGHT COUNT 9", `["m" ["r" "q"]]`, ""}, turn{"a b", "LMPOP 2 l l LEFT COUNT 9", `["l" ["a" "b"]]`, ""}, turn{"a b", "LMPOP 2 LEFT l RIGHT", `["l" ["b"]]`, "a"},
		turn{"", "LMPOP 1 l LEFT", "nil array", ""}, turn{"", "LMPOP 2 l none RIGHT COUNT 5", "nil array", ""}, turn{"", "LMPOP 2 COUNT LEFT RIGHT COUNT 5", "nil array", ""},
		turn{"a", "LMPOP 2 l t LEFT", api.BadKind, "a"}, turn{"a", "LMPOP 2 t l LEFT", api.BadKind, "a"}, turn{"", "LMPOP 3 l none t LEFT COUNT 1", api.BadKind, ""},
	)
	for _, list := range []string{"", "a b c"} {
		playAll(t,
			turn{list, "LMPOP x l LEFT", api.BadInt, list}, turn{list, "LMPOP 1.5 l LEFT", api.BadInt, list}, turn{list, "LMPOP 9223372036854775808 l LEFT", api.BadInt, list}, turn{list, `LMPOP "" l LEFT`, api.BadInt, list},
			turn{list, "LMPOP 0 l LEFT", api.BadRange, list}, turn{list, "LMPOP -1 l LEFT", api.BadRange, list}, turn{list, "LMPOP " + least + " l LEFT", api.BadRange, list}, turn{list, "LMPOP 0 l UP COUNT x", api.BadRange, list},
			turn{list, "LMPOP 2 l LEFT", api.BadSyntax, list}, turn{list, "LMPOP 3 l LEFT", api.BadSyntax, list}, turn{list, "LMPOP " + greatest + " l LEFT", api.BadSyntax, list}, turn{list, "LMPOP 4294967297 l LEFT", api.BadSyntax, list}, turn{list, "LMPOP 4 l LEFT COUNT 1", api.BadSyntax, list},
			turn{list, "LMPOP 1 l UP", api.BadSyntax, list}, turn{list, `LMPOP 1 l ""`, api.BadSyntax, list}, turn{list, "LMPOP 1 l m LEFT", api.BadSyntax, list}, turn{list, "LMPOP 1 l COUNT 1", api.BadSyntax, list}, turn{list, "LMPOP 2 l LEFT COUNT 1", api.BadSyntax, list},
			turn{list, "LMPOP 1 l LEFT COUNT", api.BadSyntax, list}, turn{list, "LMPOP 1 l LEFT CNT 1", api.BadSyntax, list}, turn{list, "LMPOP 1 l LEFT 1", api.BadSyntax, list}, turn{list, "LMPOP 1 l LEFT LEFT", api.BadSyntax, list},
			turn{list, "LMPOP 1 l LEFT COUNT x", api.BadInt, list}, turn{list, "LMPOP 1 l LEFT COUNT 0", api.BadRange, list}, turn{list, "LMPOP 1 l LEFT COUNT -1", api.BadRange, list},
			turn{list, "LMPOP 1 l LEFT COUNT 1 1", api.BadSyntax, list}, turn{list, "LMPOP 1 l LEFT COUNT 1 COUNT 1", api.BadSyntax, list})
	}
}

// TestP12_4_AsManyKeysAsCanBe: 125 keys and a word.
func TestP12_4_AsManyKeysAsCanBe(t *testing.T) {
	s := made(t, 4000)
	store(t, s, "last", listOf("a b"), 0)
	keys := strings.Repeat("none ", 124)
	play(t, s, 0, row{"LMPOP 125 " + keys + "last LEFT", `["last" ["a"]]`}, row{"LMPOP 126 " + keys + "last LEFT", api.BadSyntax}, row{"LMPOP 123 " + strings.Repeat("none ", 122) + "last RIGHT COUNT 2", `["last" ["b"]]`})
	wantGone(t, s, "last")
}

// TestP12_6_WhatChanges: beside the keys that a command writes nothing does, and what is as it was has not changed.
func TestP12_6_WhatChanges(t *testing.T) {
	for _, c := range []struct{ line, changed string }{
		{"LPUSH a x", "a"}, {"RPUSH new x", "new"}, {"LPUSHX a x", "a"}, {"LPUSHX none x", ""}, {"RPUSHX a x", "a"}, {"RPUSHX none x", ""},
		{"LPOP a", "a"}, {"RPOP a 9", "a"}, {"LPOP a 0", ""}, {"LPOP none", ""}, {"RPOP none 0", ""},
		{"LLEN a", ""}, {"LRANGE a 0 -1", ""}, {"LINDEX a 0", ""}, {"LPOS a 1", ""}, {"LPOS a 1 COUNT 0 RANK -1", ""},
		{"LSET a 0 x", "a"}, {"LSET a 0 1", ""}, {"LSET a 9 1", ""}, {"LSET none 0 1", ""},
		{"LINSERT a BEFORE 1 1", "a"}, {"LINSERT a BEFORE x 1", ""}, {"LINSERT none BEFORE x 1", ""},
		{"LREM a 0 1", "a"}, {"LREM a 0 x", ""}, {"LREM none 0 x", ""}, {"LTRIM a 1 1", "a"}, {"LTRIM a 0 -1", ""}, {"LTRIM a 9 9", "a"}, {"LTRIM none 0 0", ""},
		{"LMOVE a b LEFT LEFT", "a b"}, {"LMOVE a new LEFT LEFT", "a new"}, {"LMOVE a a LEFT LEFT", ""}, {"LMOVE a a LEFT RIGHT", "a"}, {"LMOVE one one LEFT RIGHT", ""}, {"RPOPLPUSH one one", ""}, {"RPOPLPUSH one b", "b one"}, {"LMOVE none b LEFT RIGHT", ""},
		{"LMPOP 2 a b LEFT", "a"}, {"LMPOP 3 none a b LEFT COUNT 9", "a"}, {"LMPOP 1 none LEFT", ""},
	} {
		s := made(t, 4000)
		store(t, s, "a", listOf("1 2 3"), 40)
		store(t, s, "b", listOf("8 9"), 60)
		store(t, s, "one", listOf("1"), 70)
		store(t, s, "t", others()[0], 80)
		store(t, s, "free", listOf("1 2 3"), 0)
		before := strings.Split(picture(s), "\n")
		if got := told(do(s, 0, c.line)); got == "" {
			t.Errorf("%s: no reply", c.line)
		}
		wantChanged(t, s, strings.Fields(c.changed)...)
		for _, line := range before {
			key := strings.Fields(line + " . .")[1]
			changed := strings.Contains(" "+c.changed+" ", " "+strings.Trim(key, `"`)+" ")
			if !changed && !strings.Contains(picture(s), line) {
				t.Errorf("%s: %s was %s", c.line, key, line)
			}
		}
	}
}

// TestP12_2_Deadlines: a list keeps its own as long as it is there; what comes to be has none, be it where one has just gone.
func TestP12_2_Deadlines(t *testing.T) {
	s := made(t, 4000)
	store(t, s, "a", listOf("1"), 40)
	store(t, s, "b", listOf("2 3"), 60)
	for i, line := range []string{"RPUSH a x", "LPOP a", "LSET a 0 y", "LINSERT a AFTER y z", "LREM a 0 z", "LMOVE a a LEFT RIGHT", "LMOVE b a LEFT LEFT", "LTRIM a 0 0", "LPUSHX a w", "LMPOP 1 a RIGHT", "RPOPLPUSH a a"} {
		if got := told(do(s, uint64(i), line)); got[0] == '-' {
			t.Errorf("%s: %s", line, got)
		}
		wantDeadline(t, s, "a", 40)
	}
	wantDeadline(t, s, "b", 60)
	play(t, s, 20, row{"RPOPLPUSH a c", `"w"`})
	wantGone(t, s, "a")
	wantDeadline(t, s, "c", 0)
	play(t, s, 20, row{"RPOPLPUSH c a", `"w"`})
	wantGone(t, s, "c")
	wantDeadline(t, s, "a", 0)
	play(t, s, 20, row{"LPOP b", `"3"`}, row{"RPUSH b 4", 1})
	wantDeadline(t, s, "b", 0)
	play(t, s, 100, row{"LLEN a", 1}, row{"LLEN b", 1})
}

// TestP12_2_LongLists: what stands far from both ends.
func TestP12_2_LongLists(t *testing.T) {
	s := made(t, api.MaxQuota)
	for i := range 1000 {
		play(t, s, 0, row{fmt.Sprint("RPUSH l ", i), i + 1})
	}
	play(t, s, 0,
		row{"LINDEX l 499", `"499"`}, row{"LINDEX l -400", `"600"`}, row{"LPOS l 777", 777}, row{"LPOS l 777 RANK -1 MAXLEN 223", 777}, row{"LPOS l 777 RANK -1 MAXLEN 222", "nil"}, row{"LRANGE l 500 502", `["500" "501" "502"]`},
		row{"LSET l 500 x", "OK"}, row{"LINSERT l AFTER x y", 1001}, row{"LRANGE l 499 502", `["499" "x" "y" "501"]`}, row{"LREM l 0 y", 1}, row{"LTRIM l 498 501", "OK"}, row{"LRANGE l 0 -1", `["498" "499" "x" "501"]`})
}
