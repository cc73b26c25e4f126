package text_test

import (
	"testing"

	"larder/api"
	"larder/text"
)

// TestExamples: the chapter's table, row by row.
func TestExamples(t *testing.T) {
	s := made(t, 16384)
	play(t, s, 1000, row{"SET a 10 EX 5", "OK"})
	wantDeadline(t, s, "a", 6000)
	play(t, s, 1000,
		row{"INCRBY a -15", -5}, row{"GET a", `"-5"`}, row{"DECRBY a -9223372036854775808", "9223372036854775803"},
		row{"INCRBY a 5", api.BadOver}, row{"GET a", `"9223372036854775803"`},
		row{"SET a x KEEPTTL GET", `"9223372036854775803"`}, row{"SET a y NX", "nil"})
	wantDeadline(t, s, "a", 6000)
	play(t, s, 1000, row{"SET a y XX PXAT 1000", "OK"})
	wantGone(t, s, "a")
	play(t, s, 1000,
		row{"SET a v NX XX", api.BadSyntax}, row{"SET a v GET GET", api.BadSyntax}, row{"SET a v EX", api.BadSyntax}, row{"SET a v EX 0", api.BadTime}, row{"SET a v EX x PX", api.BadInt},
		row{"APPEND s ab", 2}, row{"SETRANGE s 4 cd", 6}, row{"GETRANGE s 1 -2", `"b\x00\x00c"`}, row{"STRLEN s", 6},
		row{`SETRANGE q 0 ""`, 0}, row{"STRLEN q", 0}, row{`SETRANGE q 4097 ""`, api.BadRange}, row{"SETRANGE q 4096 x", api.BadLong},
		row{"SETBIT t 7 1", 0}, row{"GET t", `"\x01"`}, row{"GETBIT t 7", 1}, row{"GETBIT t 32767", 0}, row{"SETBIT t 32768 1", api.BadRange}, row{"SETBIT t 0 2", api.BadBit},
		row{"SET u foobar", "OK"}, row{"BITCOUNT u", 26}, row{"BITCOUNT u 0 0", 4}, row{"BITCOUNT u 5 30 BIT", 17}, row{"BITCOUNT u 1", api.BadSyntax},
		row{`SET w "\xff\xf0\x00"`, "OK"}, row{"BITPOS w 0", 12}, row{"BITPOS w 1 2", -1}, row{"BITPOS w 1 7 15 BIT", 7},
		row{`SET w "\xff\xff"`, "OK"}, row{"BITPOS w 0", 16}, row{"BITPOS w 0 0 -1", -1}, row{"BITPOS w 0 9", -1}, row{"BITPOS none 0 5 9", 0},
		row{"MSET k1 a k2 abc", "OK"}, row{"BITOP OR d k1 k2", 3}, row{"GET d", `"abc"`}, row{"BITOP NOT d k1 k2", api.BadSyntax}, row{"BITOP AND d none", 0})
	wantGone(t, s, "d")
	play(t, s, 1000, row{"BITFIELD f SET u8 0 255 GET i8 0 INCRBY u4 #1 1 OVERFLOW SAT INCRBY i8 0 -200 OVERFLOW FAIL INCRBY u1 0 9", "[0 -1 0 -128 nil]"})
	wantText(t, s, "f", "\x80")
	play(t, s, 1000, row{"BITFIELD none GET u63 100", "[0]"}, row{"BITFIELD f GET u64 0", api.BadField}, row{"BITFIELD f GET i64 32705", api.BadRange}, row{"BITFIELD f GET i8", api.BadSyntax}, row{"BITFIELD f", "[]"})
	if r := text.Do(s, 1000, 0, args("BITFIELD", "f")); r.Kind != api.ReplyArray || len(r.List) != 0 {
		t.Errorf("BITFIELD f: %v", r)
	}
}
