package text_test

import (
	"fmt"
	"strings"
	"testing"

	"larder/api"
	"larder/space"
	"larder/text"
)

// digits writes a text as its bits.
func digits(s string) string {
	var b strings.Builder
	for i := range len(s) {
		fmt.Fprintf(&b, "%08b", s[i])
	}
	return b.String()
}

// fromDigits is the text of such bits; those that the last byte lacks are 0.
func fromDigits(d string) string {
	var b strings.Builder
	for i := 0; i < len(d); i += 8 {
		c := byte(0)
		for j := range 8 {
			c <<= 1
			if i+j < len(d) && d[i+j] == '1' {
				c++
			}
		}
		b.WriteByte(c)
	}
	return b.String()
}

// inside tells whether place i of n lies in a window, by the words of P9.3.
func inside(i, n, start, stop int64) bool {
	from, to := i, i
	if start < 0 {
		from -= n
	}
	if stop < 0 {
		to -= n
	}
	return start <= from && to <= stop
}

func TestP11_10_Bits(t *testing.T) {
	s := made(t, 4000)
	play(t, s, 1000, row{`SET k "\x81\x0f" PX 500`, "OK"})
	for i, c := range digits("\x81\x0f") {
		play(t, s, 1000, row{fmt.Sprint("GETBIT k ", i), string(c)})
	}
	play(t, s, 1000,
		row{"GETBIT k 16", 0}, row{"GETBIT k 32767", 0}, row{"GETBIT none 0", 0}, row{"GETBIT none 32767", 0}, row{"STRLEN k", 2},
		row{"GETBIT k -1", api.BadRange}, row{"GETBIT k 32768", api.BadRange}, row{"GETBIT k 9223372036854775807", api.BadRange}, row{"GETBIT k -9223372036854775808", api.BadRange}, row{"GETBIT k 9223372036854775808", api.BadInt}, row{"GETBIT k x", api.BadInt}, row{"GETBIT k 00", api.BadInt}, row{"GETBIT none x", api.BadInt})
	wantGone(t, s, "none")
	play(t, s, 1000,
		row{"SETBIT k 1 1", 0}, row{"GET k", `"\xc1\x0f"`}, row{"SETBIT k 1 1", 1}, row{"SETBIT k 7 0", 1}, row{"SETBIT k 7 0", 0}, row{"SETBIT k 15 0", 1}, row{"GET k", `"\xc0\x0e"`},
		row{"SETBIT k 15 0", 0}, row{"STRLEN k", 2}, row{"SETBIT k 16 0", 0}, row{"STRLEN k", 3}, row{"SETBIT k 39 1", 0}, row{"GET k", `"\xc0\x0e\x00\x00\x01"`})
	wantDeadline(t, s, "k", 1500)
	play(t, s, 1000,
		row{"SETBIT k -1 1", api.BadRange}, row{"SETBIT k 32768 1", api.BadRange}, row{"SETBIT k 32768 x", api.BadRange}, row{"SETBIT k x 2", api.BadInt}, row{"SETBIT k 0 x", api.BadInt}, row{"SETBIT k 0 2", api.BadBit}, row{"SETBIT k 0 -1", api.BadBit}, row{"SETBIT k 0 9223372036854775807", api.BadBit}, row{"SETBIT k 0 4294967296", api.BadBit}, row{"SETBIT k 0 01", api.BadInt}, row{`SETBIT k 0 ""`, api.BadInt}, row{"SETBIT k 0 9223372036854775808", api.BadInt},
		row{"SETBIT n 0 0", 0}, row{"GET n", `"\x00"`}, row{"SETBIT m 32767 1", 0}, row{"STRLEN m", 4096}, row{"GETBIT m 32767", 1}, row{"BITCOUNT m", 1})
	wantDeadline(t, s, "n", 0)
}

// windows are bounds of windows that stand for all, on a text of n units.
func windows(n int64) []int64 {
	return []int64{-1 << 63, -n - 2, -n - 1, -n, -n + 1, -n / 2, -2, -1, 0, 1, 2, n / 2, n - 2, n - 1, n, n + 1, 1<<63 - 1}
}

var bitTexts = []string{"", "\x00", "\xff", "\x80", "\x01", "foobar", "\x00\x00\x10\x00", "\xff\xff\xef\xff", "\xff\xff", "\x00\x00\x00"}

func TestP11_11_Bitcount(t *testing.T) {
	for _, v := range bitTexts {
		s := made(t, 4000)
		text.Do(s, 0, 0, args("SET", "k", v))
		d := digits(v)
		play(t, s, 0, row{"BITCOUNT k", strings.Count(d, "1")})
		for _, unit := range []struct {
			word string
			bits int
		}{{"", 8}, {"BYTE", 8}, {"byte", 8}, {"BIT", 1}, {"bIt", 1}} {
			n := int64(len(d) / unit.bits)
			for _, start := range windows(n) {
				for _, stop := range windows(n) {
					want := 0
					for i, c := range d {
						if c == '1' && inside(int64(i/unit.bits), n, start, stop) {
							want++
						}
					}
					play(t, s, 0, row{fmt.Sprint("BITCOUNT k ", start, " ", stop, " ", unit.word), want})
				}
			}
		}
	}
	s := made(t, 4000)
	play(t, s, 0, row{"BITCOUNT none", 0}, row{"BITCOUNT none 0 -1", 0}, row{"BITCOUNT none 0 -1 BIT", 0})
	wantGone(t, s, "none")
	play(t, s, 0,
		row{"BITCOUNT k 1", api.BadSyntax}, row{"BITCOUNT k x", api.BadInt}, row{"BITCOUNT k BIT", api.BadInt}, row{"BITCOUNT k 1 x", api.BadInt}, row{"BITCOUNT k 1 BIT", api.BadInt}, row{"BITCOUNT k x FOO", api.BadInt}, row{"BITCOUNT k 1 x FOO", api.BadInt}, row{"BITCOUNT k 1 2 FOO", api.BadSyntax}, row{`BITCOUNT k 1 2 ""`, api.BadSyntax}, row{"BITCOUNT k 1 2 3", api.BadSyntax}, row{"BITCOUNT k 1 2 BIT 3", api.BadSyntax}, row{"BITCOUNT k 1 2 BYTE BIT", api.BadSyntax}, row{"BITCOUNT k 1 2 BIT BIT", api.BadSyntax})
}

// firstBit is BITPOS by its words.
func firstBit(d string, bit byte, unit, start, stop int64, ended bool) int {
	n := int64(len(d)) / unit
	looked := false
	for i := range d {
		if inside(int64(i)/unit, n, start, stop) {
			looked = true
			if d[i] == bit {
				return i
			}
		}
	}
	switch {
	case d == "" && bit == '0':
		return 0
	case bit == '0' && !ended && looked:
		return len(d)
	}
	return -1
}

func TestP11_12_Bitpos(t *testing.T) {
	for _, v := range bitTexts {
		s := made(t, 4000)
		text.Do(s, 0, 0, args("SET", "k", v))
		d := digits(v)
		for _, bit := range []string{"0", "1"} {
			line := "BITPOS k " + bit
			play(t, s, 0, row{line, firstBit(d, bit[0], 8, 0, -1, false)})
			for _, start := range windows(int64(len(v))) {
				play(t, s, 0, row{fmt.Sprint(line, " ", start), firstBit(d, bit[0], 8, start, -1, false)})
				for _, stop := range windows(int64(len(v))) {
					want := firstBit(d, bit[0], 8, start, stop, true)
					play(t, s, 0, row{fmt.Sprint(line, " ", start, " ", stop), want}, row{fmt.Sprint(line, " ", start, " ", stop, " Byte"), want})
				}
			}
			for _, start := range windows(int64(len(d))) {
				for _, stop := range windows(int64(len(d))) {
					play(t, s, 0, row{fmt.Sprint(line, " ", start, " ", stop, " BIT"), firstBit(d, bit[0], 1, start, stop, true)})
				}
			}
		}
	}
	s := made(t, 4000)
	play(t, s, 0, row{"BITPOS none 0", 0}, row{"BITPOS none 1", -1}, row{"BITPOS none 0 5", 0}, row{"BITPOS none 1 5 9", -1}, row{"BITPOS none 0 5 3 BIT", 0})
	wantGone(t, s, "none")
	play(t, s, 0,
		row{"BITPOS k x", api.BadInt}, row{"BITPOS k 2", api.BadBit}, row{"BITPOS k -1", api.BadBit}, row{"BITPOS k 2 x", api.BadBit}, row{"BITPOS k x y", api.BadInt}, row{"BITPOS k 1 x", api.BadInt}, row{"BITPOS k 1 BIT", api.BadInt}, row{"BITPOS k 1 2 BIT", api.BadInt}, row{"BITPOS k 1 2 x", api.BadInt}, row{"BITPOS k 1 2 x FOO", api.BadInt}, row{"BITPOS k 1 2 3 FOO", api.BadSyntax}, row{"BITPOS k 1 2 3 4", api.BadSyntax}, row{"BITPOS k 1 2 3 BIT 4", api.BadSyntax}, row{"BITPOS k 1 2 3 BYTE BYTE", api.BadSyntax})
}

func TestP11_13_Bitop(t *testing.T) {
	texts := []string{"", "a", "abc", "\x00\xff", "\xf0\x0f\x55\xaa"}
	ops := map[string]func(a, b byte) byte{
		"AND": func(a, b byte) byte { return a & b },
		"OR":  func(a, b byte) byte { return a | b },
		"XOR": func(a, b byte) byte { return a ^ b },
	}
	at := func(s string, i int) byte {
		if i < len(s) {
			return s[i]
		}
		return 0
	}
	keys := func(s *space.Space) {
		for i, v := range texts {
			text.Do(s, 1000, 0, args("SET", fmt.Sprint("k", i), v, "PX", "500"))
		}
	}
	for op, f := range ops {
		for x, a := range texts {
			for y, b := range texts {
				for z, c := range texts {
					want := make([]byte, max(len(a), len(b), len(c)))
					for i := range want {
						want[i] = f(f(at(a, i), at(b, i)), at(c, i))
					}
					for _, dest := range []string{"d", "k0", "k1"} {
						s := made(t, 4000)
						keys(s)
						play(t, s, 1000, row{fmt.Sprintf("BITOP %s %s k%d k%d k%d", op, dest, x, y, z), len(want)})
						if len(want) == 0 {
							wantGone(t, s, dest)
							continue
						}
						wantText(t, s, dest, string(want))
						wantDeadline(t, s, dest, 0)
					}
				}
			}
		}
	}
	for i, v := range texts {
		s := made(t, 4000)
		keys(s)
		turned := []byte(v)
		for i := range turned {
			turned[i] = 255 - turned[i]
		}
		play(t, s, 1000, row{fmt.Sprint("bitop not d k", i), len(v)}, row{fmt.Sprint("BITOP OR e k", i, " none"), len(v)})
		if v == "" {
			wantGone(t, s, "d")
			wantGone(t, s, "e")
			continue
		}
		wantText(t, s, "d", string(turned))
		wantText(t, s, "e", v)
	}
	s := made(t, 4000)
	keys(s)
	play(t, s, 1000,
		row{"BITOP AND d k2 none", 3}, row{"GET d", `"\x00\x00\x00"`}, row{"BITOP XOR d none", 0}, row{"GET d", "nil"}, row{"BITOP NOT k4 none", 0}, row{"GET k4", "nil"}, row{"BITOP OR none none none", 0},
		row{"BITOP NOT d k1 k2", api.BadSyntax}, row{"BITOP NOT d k1 k1 k1", api.BadSyntax}, row{"BITOP NAND d k1", api.BadSyntax}, row{`BITOP "" d k1`, api.BadSyntax}, row{"BITOP k1 d AND", api.BadSyntax}, row{"BITOP AND d", api.BadArity}, row{"BITOP NOT d", api.BadArity})
	many := append([]string{"BITOP", "XOR", "d"}, strings.Split(strings.Repeat("k2 ", 124)+"k1", " ")...)
	if r := text.Do(s, 1000, 0, args(many...)); told(r) != "3" {
		t.Errorf("128 arguments: %s", told(r))
	}
	wantText(t, s, "d", "a\x00\x00")
}
