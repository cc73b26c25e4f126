package nest_test

import (
	"fmt"
	"strings"
	"testing"

	"larder/api"
)

const (
	greatest = "9223372036854775807"
	least    = "-9223372036854775808"
)

func TestP13_2_HSET(t *testing.T) {
	playAll(t,
		turn{"", "HSET k a 1", 1, "a 1"}, turn{"", "HSET k b 2 a 1", 2, "a 1 b 2"}, turn{"", "HSET k a 1 a 2 a 3", 1, "a 3"}, turn{"", "HSET k a 1 b 2 a 3 b 4", 2, "a 3 b 4"},
		turn{"a 1 b 2", "HSET k a 5", 0, "a 5 b 2"}, turn{"a 1 b 2", "HSET k a 1", 0, "a 1 b 2"}, turn{"a 1", "HSET k b 2 a 9 c 3", 2, "a 9 b 2 c 3"}, turn{"a 1", "HSET k a 2 a 1", 0, "a 1"}, turn{"a 1", "HSET k a 1 b x b y a 2", 1, "a 2 b y"},
		turn{"", `HSET k "" ""`, 1, `"" ""`}, turn{"a 1", `HSET k "" x`, 1, `"" x a 1`}, turn{"a 1", `HSET k a ""`, 0, `a ""`}, turn{"a 1", `HSET k "a\x00" "\r\n\xff"`, 1, `a 1 "a\x00" "\r\n\xff"`}, turn{"a 1", "HSET k A 2", 1, "A 2 a 1"},
		turn{"a 1", "HSET k b", api.BadArity, "a 1"}, turn{"a 1", "HSET k b 1 c", api.BadArity, "a 1"}, turn{"a 1", "HSET k", api.BadArity, "a 1"}, turn{"a 1", "HSET t b 1 c", api.BadArity, "a 1"},
	)
}

func TestP13_2_HSETNX(t *testing.T) {
	playAll(t,
		turn{"", "HSETNX k a 1", 1, "a 1"}, turn{"a 1", "HSETNX k b 2", 1, "a 1 b 2"}, turn{"a 1", "HSETNX k a 2", 0, "a 1"}, turn{"a 1", "HSETNX k a 1", 0, "a 1"}, turn{`a ""`, "HSETNX k a 2", 0, `a ""`}, turn{"a 1", `HSETNX k "" ""`, 1, `"" "" a 1`},
		turn{"a 1", "HSETNX k b 1 c 2", api.BadArity, "a 1"}, turn{"a 1", "HSETNX k b", api.BadArity, "a 1"},
	)
}

func TestP13_2_HDEL(t *testing.T) {
	playAll(t,
		turn{"a 1 b 2 c 3", "HDEL k b", 1, "a 1 c 3"}, turn{"a 1 b 2 c 3", "HDEL k b b b", 1, "a 1 c 3"}, turn{"a 1 b 2 c 3", "HDEL k c x a c", 2, "b 2"}, turn{"a 1 b 2 c 3", "HDEL k a b c", 3, ""}, turn{"a 1", "HDEL k a a", 1, ""},
		turn{"a 1", "HDEL k b", 0, "a 1"}, turn{"a 1", `HDEL k ""`, 0, "a 1"}, turn{`"" x a 1`, `HDEL k ""`, 1, "a 1"}, turn{"a 1", "HDEL k A", 0, "a 1"}, turn{"a 1", "HDEL k 1", 0, "a 1"}, turn{"", "HDEL k a b", 0, ""},
	)
}

func TestP13_2_HGET(t *testing.T) {
	playAll(t,
		turn{"a 1 b 2", "HGET k a", `"1"`, "a 1 b 2"}, turn{"a 1 b 2", "HGET k b", `"2"`, "a 1 b 2"}, turn{"a 1", "HGET k x", "nil", "a 1"}, turn{"a 1", "HGET k 1", "nil", "a 1"}, turn{`a ""`, "HGET k a", `""`, `a ""`}, turn{`"" x`, `HGET k ""`, `"x"`, `"" x`}, turn{`a "\x00\xff"`, "HGET k a", `"\x00\xff"`, `a "\x00\xff"`}, turn{"", "HGET k a", "nil", ""},
		turn{"a 1 b 2", "HMGET k a", `["1"]`, "a 1 b 2"}, turn{"a 1 b 2", "HMGET k b x a b", `["2" nil "1" "2"]`, "a 1 b 2"}, turn{`a ""`, `HMGET k "" a`, `[nil ""]`, `a ""`}, turn{"", "HMGET k a b a", "[nil nil nil]", ""},
		turn{"a 1", "HEXISTS k a", 1, "a 1"}, turn{"a 1", "HEXISTS k b", 0, "a 1"}, turn{`a ""`, "HEXISTS k a", 1, `a ""`}, turn{"a 1", `HEXISTS k ""`, 0, "a 1"}, turn{"", "HEXISTS k a", 0, ""},
		turn{"a 1 b twelve-bytes", "HSTRLEN k b", 12, "a 1 b twelve-bytes"}, turn{"a 1", "HSTRLEN k a", 1, "a 1"}, turn{`a ""`, "HSTRLEN k a", 0, `a ""`}, turn{"a 1", "HSTRLEN k b", 0, "a 1"}, turn{"a \u00e4\u00f6", "HSTRLEN k a", 4, "a \u00e4\u00f6"}, turn{"", "HSTRLEN k a", 0, ""},
		turn{"a 1 b 2", "HLEN k", 2, "a 1 b 2"}, turn{"a 1", "HLEN k", 1, "a 1"}, turn{"", "HLEN k", 0, ""},
	)
}

// TestR12_FieldsAreSorted: by their bytes, a text ahead of its own continuations.
func TestR12_FieldsAreSorted(t *testing.T) {
	const l = `"" 9 "\x00" 8 "\x00\x00" 7 A 6 Z 5 a 4 aa 3 ab 2 b 1 "\x7f" b "\x80" a "\xff" 0`
	playAll(t,
		turn{l, "HGETALL k", bulks(l), l}, turn{l, "HKEYS k", bulks(`"" "\x00" "\x00\x00" A Z a aa ab b "\x7f" "\x80" "\xff"`), l}, turn{l, "HVALS k", bulks("9 8 7 6 5 4 3 2 1 b a 0"), l},
		turn{"a 1", "HGETALL k", bulks("a 1"), "a 1"}, turn{"a x b x", "HVALS k", bulks("x x"), "a x b x"}, turn{"", "HGETALL k", "[]", ""}, turn{"", "HKEYS k", "[]", ""}, turn{"", "HVALS k", "[]", ""},
	)
	// So it stays while the table grows and shrinks.
	s := made(t, 16384)
	var fields, values []string
	for i := range 500 {
		field, value := fmt.Sprintf("%03d", i*263%500), fmt.Sprint(i)
		if got := told(do(s, 0, "HSET h "+field+" "+value)); got != "1" {
			t.Fatalf("HSET: %s", got)
		}
	}
	for i := range 500 {
		fields = append(fields, fmt.Sprintf("%03d", i))
		r := do(s, 0, "HGET h "+fields[i])
		values = append(values, string(r.Text))
	}
	for n := 500; n > 0; n = n * 2 / 3 {
		play(t, s, 0, row{"HLEN h", n}, row{"HKEYS h", quoted(fields[:n])}, row{"HVALS h", quoted(values[:n])})
		for i := n - 1; i >= n*2/3; i-- {
			do(s, 0, "HDEL h "+fields[i])
		}
	}
	wantGone(t, s, "h")
}

func TestP13_2_HINCRBY(t *testing.T) {
	playAll(t,
		turn{"", "HINCRBY k a 5", 5, "a 5"}, turn{"", "HINCRBY k a -5", -5, "a -5"}, turn{"", "HINCRBY k a 0", 0, "a 0"}, turn{"a 1", "HINCRBY k b 7", 7, "a 1 b 7"}, turn{"a 1", `HINCRBY k "" 7`, 7, `"" 7 a 1`},
		turn{"a 1 b x", "HINCRBY k a 41", 42, "a 42 b x"}, turn{"a 1", "HINCRBY k a 0", 1, "a 1"}, turn{"a 1", "HINCRBY k a -1", 0, "a 0"}, turn{"a 99", "HINCRBY k a 1", 100, "a 100"}, turn{"a -1", "HINCRBY k a 2", 1, "a 1"},
		turn{"", "HINCRBY k a " + greatest, greatest, "a " + greatest}, turn{"", "HINCRBY k a " + least, least, "a " + least}, turn{"a " + least, "HINCRBY k a " + greatest, -1, "a -1"}, turn{"a " + greatest, "HINCRBY k a " + least, -1, "a -1"}, turn{"a 9223372036854775806", "HINCRBY k a 1", greatest, "a " + greatest}, turn{"a -9223372036854775807", "HINCRBY k a -1", least, "a " + least},
		turn{"a " + greatest, "HINCRBY k a 1", api.BadOver, "a " + greatest}, turn{"a " + least, "HINCRBY k a -1", api.BadOver, "a " + least}, turn{"a 1", "HINCRBY k a " + greatest, api.BadOver, "a 1"}, turn{"a -1", "HINCRBY k a " + least, api.BadOver, "a -1"}, turn{"a " + greatest, "HINCRBY k a " + greatest, api.BadOver, "a " + greatest}, turn{"a " + least, "HINCRBY k a " + least, api.BadOver, "a " + least},
	)
	for _, bad := range []string{"x", `""`, "1.5", "+1", "01", "-0", `"\x201"`, `"1\x20"`, "0x1", "1e3", "9223372036854775808", "-9223372036854775809", "--1", "-"} {
		playAll(t, turn{"a 1", "HINCRBY k a " + bad, api.BadInt, "a 1"}, turn{"", "HINCRBY k a " + bad, api.BadInt, ""}, turn{"a 1", "HINCRBY t a " + bad, api.BadInt, "a 1"},
			turn{"a " + bad, "HINCRBY k a 1", api.BadInt, "a " + bad}, turn{"a " + bad, "HINCRBY k a 0", api.BadInt, "a " + bad})
	}
}

// TestP13_2_DeadlinesOfHashes: a key that is changed keeps its own, one that is made has none, and so has one that is made again.
func TestP13_2_DeadlinesOfHashes(t *testing.T) {
	for _, line := range []string{"HSET h a 2", "HSET h b 2", "HSETNX h b 1", "HSETNX h a 5", "HINCRBY h a 1", "HINCRBY h b 1", "HDEL h z", "HDEL h none", "HGET h a", "HSCAN h 0"} {
		s := made(t, 4000)
		store(t, s, "h", hashOf("a 1 z 9"), 40)
		do(s, 0, line)
		wantDeadline(t, s, "h", 40)
		if line[1] != 'D' && line[1] != 'G' && line[2] != 'C' {
			do(s, 0, "HDEL h a b z")
			wantGone(t, s, "h")
			do(s, 0, line)
			wantDeadline(t, s, "h", 0)
		}
	}
}

// TestP13_4_WhatHasNotChanged: that something was written or looked at does not count.
func TestP13_4_WhatHasNotChanged(t *testing.T) {
	s := made(t, 4000)
	store(t, s, "h", hashOf("a 1 b 2"), 40)
	store(t, s, "s", setOf("a b c"), 40)
	store(t, s, "m", setOf("b d"), 0)
	store(t, s, "u", setOf("a b c d"), 0)
	for _, line := range strings.Split("HSET h a 1|HSET h a 5 a 1|HSET h a 1 b 2|HSETNX h a 9|HINCRBY h a 0|HDEL h x|HDEL none a|HGET h a|HGETALL h|HKEYS h|HVALS h|HLEN h|HMGET h a x|HSTRLEN h a|HEXISTS h a|HSCAN h 0|SADD s a|SADD s a b c c|SREM s x|SREM none x|SPOP s 0|SPOP none|SPOP none 5|SMOVE s s a|SMOVE s m x|SMOVE none m b|SMOVE none none b|SMEMBERS s|SCARD s|SISMEMBER s a|SMISMEMBER s a x|SSCAN s 0|SUNION s m|SINTER s m|SDIFF s m|SINTERCARD 2 s m|SUNIONSTORE u s m|SUNIONSTORE m m|SINTERSTORE m u m|SDIFFSTORE none s u|SINTERSTORE none s none", "|") {
		if r := do(s, 0, line); r.Kind == api.ReplyError {
			t.Errorf("%s: %s", line, told(r))
		}
		t.Run(line, func(t *testing.T) { wantChanged(t, s) })
	}
}
