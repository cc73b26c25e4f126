package word_test

import (
	"math/big"
	"strings"
	"testing"

	"larder/api"
	"larder/word"
)

const (
	leastInt = -1 << 63
	mostInt  = 1<<63 - 1
)

// notSpelled: texts that spell no number, with a sign or without.
var notSpelled = []string{
	"", "-", "-0", "+1", "+0", "+", "01", "00", "007", "-01", "-00", "--1", "-+1", "- 1", " 1", "1 ", " ", "1\n", "1\x00", "\x001", "1a", "a1", "0x1", "1e3", "1.0", "1_000", "1,000", "1-", "1-1",
	"/", ":", "1/", "1:", "٣", "1٣", "\xff", "1\xb1", "0-", "0 ",
	"99999999999999999999999999999999999x", "x99999999999999999999999999999999999", "099999999999999999999999999999999999", "-099999999999999999999999999999999999",
}

func TestP1_7_IntReadsSpellings(t *testing.T) {
	for _, c := range []struct {
		b string
		n int64
	}{
		{"0", 0}, {"1", 1}, {"9", 9}, {"10", 10}, {"-1", -1}, {"-10", -10}, {"1234567890", 1234567890}, {"-1234567890", -1234567890},
		{"9223372036854775807", mostInt}, {"9223372036854775799", mostInt - 8}, {"-9223372036854775807", leastInt + 1}, {"-9223372036854775808", leastInt},
	} {
		if n, e := word.Int([]byte(c.b)); n != c.n || e != api.OK {
			t.Errorf("Int(%q) = %d, %d, want %d", c.b, n, e, c.n)
		}
	}
}

func TestP1_7_IntRefusesWhatIsNoSpelling(t *testing.T) {
	for _, b := range notSpelled {
		if n, e := word.Int([]byte(b)); n != 0 || e != api.ErrInt {
			t.Errorf("Int(%q) = %d, %d, want 0, ErrInt", b, n, e)
		}
	}
	if n, e := word.Int(nil); n != 0 || e != api.ErrInt {
		t.Errorf("Int(nil) = %d, %d, want 0, ErrInt", n, e)
	}
	for c := range 256 {
		if c >= '0' && c <= '9' {
			continue
		}
		for _, b := range [][]byte{{byte(c)}, {'1', byte(c)}, {'-', '1', byte(c)}, {'1', byte(c), '1'}} {
			if n, e := word.Int(b); n != 0 || e != api.ErrInt {
				t.Errorf("Int(%q) = %d, %d, want 0, ErrInt", b, n, e)
			}
		}
	}
}

func TestP1_7_IntTellsWhatIsTooFar(t *testing.T) {
	long := strings.Repeat("0", 5000)
	for _, b := range []string{
		"9223372036854775808", "-9223372036854775809", "9223372036854775810", "9300000000000000000", "18446744073709551615", "18446744073709551616", "18446744073709551617", "-18446744073709551616", "-18446744073709551617", "20000000000000000000", "184467440737095516160",
		"100000000000000000000000000000000000", "-100000000000000000000000000000000000", "1" + long, "-1" + long,
	} {
		if n, e := word.Int([]byte(b)); n != 0 || e != api.ErrOver {
			t.Errorf("Int(%.40q) = %d, %d, want 0, ErrOver", b, n, e)
		}
	}
}

func TestP1_7_IntAroundPowers(t *testing.T) {
	for _, base := range []int64{2, 10} {
		for power := range int64(70) {
			for off := int64(-3); off <= 3; off++ {
				x := new(big.Int).Exp(big.NewInt(base), big.NewInt(power), nil)
				x.Add(x, big.NewInt(off))
				checkBig(t, x)
				checkBig(t, x.Neg(x))
			}
		}
	}
}

// checkBig holds Int, Text, Uint and Digits against a number of any size.
func checkBig(t *testing.T, x *big.Int) {
	t.Helper()
	b := []byte(x.String())
	n, e := word.Int(b)
	if x.IsInt64() && (n != x.Int64() || e != api.OK || string(word.Text(n)) != x.String()) {
		t.Errorf("Int(%s) = %d, %d; Text %q", b, n, e, word.Text(n))
	}
	if !x.IsInt64() && (n != 0 || e != api.ErrOver) {
		t.Errorf("Int(%s) = %d, %d, want 0, ErrOver", b, n, e)
	}
	u, e := word.Uint(b)
	if x.IsUint64() && (u != x.Uint64() || e != api.OK || string(word.Digits(u)) != x.String()) {
		t.Errorf("Uint(%s) = %d, %d; Digits %q", b, u, e, word.Digits(u))
	}
	if !x.IsUint64() && (u != 0 || e != api.ErrInt) {
		t.Errorf("Uint(%s) = %d, %d, want 0, ErrInt", b, u, e)
	}
}

func TestP1_8_Text(t *testing.T) {
	for _, c := range []struct {
		n    int64
		want string
	}{
		{-7, "-7"}, {0, "0"}, {7, "7"}, {10, "10"}, {-100, "-100"}, {99, "99"}, {100, "100"}, {mostInt, "9223372036854775807"}, {leastInt, "-9223372036854775808"},
	} {
		if b := word.Text(c.n); string(b) != c.want {
			t.Errorf("Text(%d) = %q, want %q", c.n, b, c.want)
		}
	}
	for n := int64(-2000); n <= 2000; n++ {
		if back, e := word.Int(word.Text(n)); back != n || e != api.OK {
			t.Errorf("Int(Text(%d)) = %d, %d", n, back, e)
		}
	}
}

func TestP1_9_Add(t *testing.T) {
	values := []int64{0, 1, -1, 2, -2, 1 << 31, -1 << 31, 1 << 62, 1<<62 - 1, -1 << 62, -1<<62 - 1, mostInt - 1, mostInt, leastInt, leastInt + 1}
	for _, a := range values {
		for _, b := range values {
			sum := new(big.Int).Add(big.NewInt(a), big.NewInt(b))
			want, wantE := int64(0), api.ErrOver
			if sum.IsInt64() {
				want, wantE = sum.Int64(), api.OK
			}
			if n, e := word.Add(a, b); n != want || e != wantE {
				t.Errorf("Add(%d, %d) = %d, %d, want %d, %d", a, b, n, e, want, wantE)
			}
		}
	}
}

func TestP1_9_AddExamples(t *testing.T) {
	for _, c := range []struct {
		a, b, n int64
		e       api.Errno
	}{
		{2, 3, 5, api.OK}, {mostInt, 1, 0, api.ErrOver}, {leastInt, -1, 0, api.ErrOver}, {mostInt, leastInt, -1, api.OK}, {mostInt, 0, mostInt, api.OK}, {leastInt, 0, leastInt, api.OK},
	} {
		if n, e := word.Add(c.a, c.b); n != c.n || e != c.e {
			t.Errorf("Add(%d, %d) = %d, %d, want %d, %d", c.a, c.b, n, e, c.n, c.e)
		}
	}
}

func TestP1_10_UintAndDigits(t *testing.T) {
	for _, c := range []struct {
		b string
		n uint64
	}{
		{"0", 0}, {"1", 1}, {"9", 9}, {"10", 10}, {"255", 255}, {"9223372036854775808", 1 << 63}, {"18446744073709551609", 1<<64 - 7}, {"18446744073709551615", 1<<64 - 1},
	} {
		if n, e := word.Uint([]byte(c.b)); n != c.n || e != api.OK {
			t.Errorf("Uint(%q) = %d, %d, want %d", c.b, n, e, c.n)
		}
		if b := word.Digits(c.n); string(b) != c.b {
			t.Errorf("Digits(%d) = %q, want %q", c.n, b, c.b)
		}
	}
}

func TestP1_10_UintRefusesEverythingElse(t *testing.T) {
	past := []string{"18446744073709551616", "18446744073709551620", "18446744073709551625", "20000000000000000000", "28446744073709551615", "36893488147419103232", "184467440737095516150", "1" + strings.Repeat("0", 5000), "-1", "-10", "-18446744073709551615"}
	for _, b := range append(past, notSpelled...) {
		if n, e := word.Uint([]byte(b)); n != 0 || e != api.ErrInt {
			t.Errorf("Uint(%.40q) = %d, %d, want 0, ErrInt", b, n, e)
		}
	}
	if n, e := word.Uint(nil); n != 0 || e != api.ErrInt {
		t.Errorf("Uint(nil) = %d, %d, want 0, ErrInt", n, e)
	}
}
