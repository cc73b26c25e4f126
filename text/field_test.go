package text_test

import (
	"fmt"
	"math/big"
	"slices"
	"strings"
	"testing"

	"larder/api"
	"larder/text"
)

// kind is a type of a field.
type kind struct {
	signed bool
	bits   int
}

func (k kind) String() string {
	if k.signed {
		return fmt.Sprint("i", k.bits)
	}
	return fmt.Sprint("u", k.bits)
}

func power(n int) *big.Int { return new(big.Int).Lsh(big.NewInt(1), uint(n)) }

// bounds tells the least and the greatest number of a type.
func (k kind) bounds() (lo, hi *big.Int) {
	one := big.NewInt(1)
	if k.signed {
		hi = power(k.bits - 1)
		return new(big.Int).Neg(hi), new(big.Int).Sub(hi, one)
	}
	return new(big.Int), new(big.Int).Sub(power(k.bits), one)
}

// read tells the number that bits, written as digits, are in a type.
func (k kind) read(d string) *big.Int {
	n, _ := new(big.Int).SetString(d, 2)
	if k.signed && d[0] == '1' {
		n.Sub(n, power(k.bits))
	}
	return n
}

// write tells a number of the type as its bits.
func (k kind) write(n *big.Int) string {
	m := new(big.Int).Mod(n, power(k.bits))
	return fmt.Sprintf("%0*s", k.bits, m.Text(2))
}

// fit tells what becomes of a number that is to be laid into a field; nil: nothing.
func (k kind) fit(n *big.Int, overflow string) *big.Int {
	lo, hi := k.bounds()
	above, below := n.Cmp(hi) > 0, n.Cmp(lo) < 0
	switch {
	case !above && !below:
		return n
	case overflow == "FAIL":
		return nil
	case overflow == "SAT" && above:
		return hi
	case overflow == "SAT":
		return lo
	}
	return k.read(k.write(n))
}

func kinds() []kind {
	var all []kind
	for n := 1; n <= 64; n++ {
		all = append(all, kind{true, n})
		if n < 64 {
			all = append(all, kind{false, n})
		}
	}
	return all
}

// TestP11_14_Types: all that are types are, all else isn't.
func TestP11_14_Types(t *testing.T) {
	s := made(t, 4000)
	play(t, s, 0, row{"SET k foobarfoobar", "OK"})
	d := digits("foobarfoobar")
	for _, k := range kinds() {
		for _, at := range []int{0, 1, 7, 8, 13} {
			play(t, s, 0, row{fmt.Sprint("BITFIELD k GET ", k, " ", at), "[" + k.read(d[at:at+k.bits]).String() + "]"})
		}
	}
	for _, b := range []string{`""`, "i", "u", "i0", "u0", "i65", "u64", "u65", "i-1", "u-8", "i08", "u+8", "I8", "U8", "8", "x8", "i8x", "ii8", `"i8\x20"`, `"i\x208"`, "#8", "i18446744073709551617", "i9223372036854775808", "u4294967297", "i256"} {
		play(t, s, 0,
			row{"BITFIELD k GET " + b + " 0", api.BadField}, row{"BITFIELD k GET " + b + " x", api.BadField}, row{"BITFIELD k SET " + b + " 0 0", api.BadField}, row{"BITFIELD k SET " + b + " x y", api.BadField}, row{"BITFIELD k INCRBY " + b + " 0 0", api.BadField}, row{"BITFIELD k SET u8 0 1 GET " + b + " 0", api.BadField}, row{"BITFIELD k GET " + b + " 0 FOO", api.BadField})
	}
}

// TestP11_14_Offsets: a field may lie anywhere within the greatest text.
func TestP11_14_Offsets(t *testing.T) {
	const all = 8 * api.MaxText
	s := made(t, 4000)
	for _, k := range kinds() {
		last, lastStep := all-k.bits, all/k.bits-1
		for _, at := range []int{0, 1, last - 1, last} {
			play(t, s, 0, row{fmt.Sprint("BITFIELD none GET ", k, " ", at), "[0]"})
		}
		for _, at := range []int{last + 1, last + 2, all - 1, all, all + 1, 1 << 62, -1, -k.bits, -1 << 63, 1<<63 - 1} {
			if at != last {
				want := any(api.BadRange)
				if at >= 0 && at <= last {
					want = "[0]"
				}
				play(t, s, 0, row{fmt.Sprint("BITFIELD none GET ", k, " ", at), want})
			}
		}
		for _, at := range []int{0, 1, lastStep} {
			play(t, s, 0, row{fmt.Sprint("BITFIELD none GET ", k, " #", at), "[0]"})
		}
		for _, at := range []int{lastStep + 1, lastStep + 2, all, 1 << 58, 1 << 60, 1 << 62, 1<<63 - 1, -1, -1 << 63} {
			play(t, s, 0, row{fmt.Sprint("BITFIELD none GET ", k, " #", at), api.BadRange}, row{fmt.Sprint("BITFIELD none SET ", k, " #", at, " x"), api.BadRange})
		}
	}
	wantGone(t, s, "none")
	for _, b := range []string{`""`, "#", "##1", "x", "#x", "01", "#01", "-0", "#-0", "+1", "#+1", "1#", "9223372036854775808", "#9223372036854775808", "-9223372036854775809"} {
		play(t, s, 0, row{"BITFIELD none GET u8 " + b, api.BadInt}, row{"BITFIELD none INCRBY u8 " + b + " x", api.BadInt}, row{"BITFIELD none GET u8 0 SET u8 " + b + " 0", api.BadInt})
	}
	play(t, s, 0, row{"SET k foobar", "OK"}, row{"BITFIELD k GET u8 #1 GET u4 #3 GET u3 #2 GET u8 8", "[111 15 4 111]"})
}

// TestP11_14_Words: what is read as an operation, and what comes first of what is wrong.
func TestP11_14_Words(t *testing.T) {
	s := made(t, 4000)
	play(t, s, 0,
		row{"BITFIELD k", "[]"}, row{"BITFIELD k OVERFLOW SAT", "[]"}, row{"BITFIELD k overflow wrap get u8 0 Overflow Fail OVERFLOW sat", "[0]"},
		row{"BITFIELD k FOO", api.BadSyntax}, row{`BITFIELD k ""`, api.BadSyntax}, row{"BITFIELD k u8 0", api.BadSyntax}, row{"BITFIELD k GET u8 0 1", api.BadSyntax}, row{"BITFIELD k SET u8 0 1 1", api.BadSyntax}, row{"BITFIELD k OVERFLOW SAT WRAP", api.BadSyntax},
		row{"BITFIELD k GET", api.BadSyntax}, row{"BITFIELD k GET x", api.BadSyntax}, row{"BITFIELD k SET", api.BadSyntax}, row{"BITFIELD k SET x", api.BadSyntax}, row{"BITFIELD k SET x y", api.BadSyntax}, row{"BITFIELD k INCRBY", api.BadSyntax}, row{"BITFIELD k INCRBY x", api.BadSyntax}, row{"BITFIELD k INCRBY x y", api.BadSyntax}, row{"BITFIELD k OVERFLOW", api.BadSyntax}, row{"BITFIELD k OVERFLOW FOO", api.BadSyntax}, row{"BITFIELD k OVERFLOW GET u8 0", api.BadSyntax},
		row{"BITFIELD k SET u8 0 1 SET u8 0", api.BadSyntax}, row{"BITFIELD k GET x y FOO", api.BadField}, row{"BITFIELD k GET u8 y FOO", api.BadInt}, row{"BITFIELD k GET u8 -1 FOO", api.BadRange}, row{"BITFIELD k FOO GET x 0", api.BadSyntax}, row{"BITFIELD k SET u8 -1 x", api.BadRange}, row{"BITFIELD k SET u8 x x", api.BadInt}, row{"BITFIELD k SET x -1 x", api.BadField}, row{"BITFIELD k SET u8 0 x FOO", api.BadInt}, row{"BITFIELD k SET u8 0 9223372036854775808", api.BadInt}, row{"BITFIELD k INCRBY i64 0 -9223372036854775809", api.BadInt}, row{"BITFIELD k INCRBY i64 0 01", api.BadInt}, row{"BITFIELD k SET u8 0 x GET", api.BadInt}, row{"BITFIELD k SET x 0 GET u8 0", api.BadField}, row{"BITFIELD k SET u8 0 GET u8 0", api.BadInt})
	wantGone(t, s, "k")
	many := append([]string{"BITFIELD", "k"}, strings.Split(strings.Repeat("INCRBY u8 0 1 ", 31)+"OVERFLOW SAT", " ")...)
	if r := text.Do(s, 0, 0, args(many...)); len(r.List) != 31 || r.List[30].Num != 31 {
		t.Errorf("128 arguments: %s", told(r))
	}
}

// TestP11_14_HowLongTheTextBecomes.
func TestP11_14_HowLongTheTextBecomes(t *testing.T) {
	for _, c := range []struct {
		line, reply, text string
	}{
		{"SET u1 0 0", "[0]", "\x00"}, {"SET u8 0 1", "[0]", "\x01"}, {"SET u8 1 1", "[0]", "\x00\x80"}, {"INCRBY u8 8 0", "[0]", "\x00\x00"}, {"INCRBY i2 7 1", "[1]", "\x00\x80"}, {"SET u9 #1 1", "[0]", "\x00\x00\x40"},
		{"OVERFLOW FAIL SET u8 16 256", "[nil]", "\x00\x00\x00"}, {"OVERFLOW FAIL INCRBY u1 8 2", "[nil]", "\x00\x00"}, {"SET u8 0 1 SET u8 16 2 GET u8 800", "[0 0 0]", "\x01\x00\x02"}, {"GET u8 800 SET u8 16 2 SET u8 0 1", "[0 0 0]", "\x01\x00\x02"},
	} {
		s := made(t, 4000)
		play(t, s, 1000, row{"BITFIELD k " + c.line, c.reply})
		wantText(t, s, "k", c.text)
		wantDeadline(t, s, "k", 0)
		play(t, s, 1000, row{"SETEX k 5 " + wide(9), "OK"}, row{"BITFIELD k GET u8 800 GET i64 60", fmt.Sprintf("[0 %d]", 0x777<<52)})
		wantText(t, s, "k", wide(9))
		play(t, s, 1000, row{"BITFIELD k SET u8 0 65", "[119]"})
		wantText(t, s, "k", "A"+wide(8))
		wantDeadline(t, s, "k", 6000)
	}
	s := made(t, 4000)
	play(t, s, 0, row{"BITFIELD k GET u8 0 OVERFLOW FAIL", "[0]"})
	wantGone(t, s, "k")
	play(t, s, 0, row{"BITFIELD k SET u63 32705 1", "[0]"}, row{"STRLEN k", 4096}, row{"GETBIT k 32767", 1}, row{"BITCOUNT k", 1})
}

// TestP11_14_Overflow: numbers around the bounds of every type, laid and added in every way, and the bits around the field.
func TestP11_14_Overflow(t *testing.T) {
	for _, k := range kinds() {
		lo, hi := k.bounds()
		var numbers []*big.Int
		for _, b := range []*big.Int{lo, hi, new(big.Int), power(k.bits), new(big.Int).Neg(power(k.bits)), big.NewInt(-1 << 63), big.NewInt(1<<63 - 1), big.NewInt(1 << 40)} {
			for d := int64(-1); d <= 1; d++ {
				if n := new(big.Int).Add(b, big.NewInt(d)); n.IsInt64() {
					numbers = append(numbers, n)
				}
			}
		}
		numbers = slices.CompactFunc(numbers, func(a, b *big.Int) bool { return a.Cmp(b) == 0 })
		for _, was := range numbers {
			if was.Cmp(lo) >= 0 && was.Cmp(hi) <= 0 {
				for _, overflow := range []string{"", "WRAP", "SAT", "FAIL"} {
					overflowRound(t, k, was, numbers, overflow)
				}
			}
		}
	}
}

// overflowRound lays each number over a field that holds was, and adds it to such a field.
func overflowRound(t *testing.T, k kind, was *big.Int, numbers []*big.Int, overflow string) {
	t.Helper()
	const at = 5
	s := made(t, 4000)
	around := "10110" + k.write(was) + "0110111"
	ahead := ""
	if overflow != "" {
		ahead = "OVERFLOW " + overflow + " "
	}
	for _, n := range numbers {
		for _, word := range []string{"SET", "INCRBY"} {
			number, reply := n, was
			if word == "INCRBY" {
				number = new(big.Int).Add(was, n)
			}
			laid := k.fit(number, overflow)
			want := "nil"
			behind := k.write(was)
			if laid != nil {
				if word == "INCRBY" {
					reply = laid
				}
				want, behind = reply.String(), k.write(laid)
			}
			text.Do(s, 0, 0, args("SET", "k", fromDigits(around)))
			line := fmt.Sprintf("BITFIELD k %s%s %s %d %s GET %s %d", ahead, word, k, at, n, k, at)
			play(t, s, 0, row{line, "[" + want + " " + k.read(behind).String() + "]"})
			wantText(t, s, "k", fromDigits("10110"+behind+"0110111"))
		}
	}
}

// TestP11_14_InOrder: each operation sees what those ahead of it have done, and each OVERFLOW what is behind it.
func TestP11_14_InOrder(t *testing.T) {
	s := made(t, 4000)
	play(t, s, 0,
		row{"BITFIELD k SET u8 0 200 GET i8 0 INCRBY u8 0 100 OVERFLOW SAT INCRBY u8 0 300 GET u4 4 OVERFLOW FAIL INCRBY u8 0 1 GET u8 0 OVERFLOW WRAP INCRBY u8 0 1 SET i4 0 -1 GET u8 0", "[0 -56 44 255 15 nil 255 0 0 240]"},
		row{"BITFIELD k OVERFLOW FAIL INCRBY u8 0 100", "[nil]"}, row{"BITFIELD k INCRBY u8 0 100", "[84]"})
	wantText(t, s, "k", "\x54")
}
