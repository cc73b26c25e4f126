package match_test

import (
	"math"
	"math/big"
	"regexp"
	"strings"
	"testing"

	"larder/api"
	"larder/match"
)

var spelling = regexp.MustCompile(`^(0|-?[1-9][0-9]*)$`)

// score reads a bound as the chapter's words say.
func score(s string) (api.Bound, api.Errno) {
	number, open := strings.CutPrefix(s, "(")
	switch {
	case number == "-inf":
		return api.Bound{Far: -1}, api.OK
	case number == "inf" || number == "+inf":
		return api.Bound{Far: 1}, api.OK
	case !spelling.MatchString(number):
		return api.Bound{}, api.ErrBound
	}
	n, _ := new(big.Int).SetString(number, 10)
	if !n.IsInt64() {
		return api.Bound{}, api.ErrBound
	}
	return api.Bound{Score: n.Int64(), Open: open}, api.OK
}

// wantScore holds Score against the chapter's words.
func wantScore(t *testing.T, s string) {
	t.Helper()
	got, e := match.Score([]byte(s))
	if want, f := score(s); got != want || e != f {
		t.Fatalf("Score(%.80q) = %v, %d, want %v, %d", s, got, e, want, f)
	}
}

func TestP9_4_EveryShortScore(t *testing.T) {
	every("(-+inf019", 6, func(s string) { wantScore(t, s) })
}

func TestP9_4_OddScores(t *testing.T) {
	for _, s := range []string{"inf", "+inf", "-inf"} {
		for _, ahead := range []string{"", "(", "((", "[", " ", "+", "-"} {
			for _, behind := range []string{"", "(", " ", "\n", "\x00", "0", "inity"} {
				wantScore(t, ahead+s+behind)
				wantScore(t, ahead+strings.ToUpper(s)+behind)
				wantScore(t, ahead+strings.Replace(s, "i", "I", 1)+behind)
				wantScore(t, ahead+strings.Replace(s, "f", "F", 1)+behind)
			}
		}
	}
	for _, s := range []string{"1.5", "1e3", "0x10", "1_000", "nan", "١", "12a", "1\n", "1 ", " 1", ")1", "{1", "1("} {
		wantScore(t, s)
		wantScore(t, "("+s)
	}
	for b := range 256 {
		c := string([]byte{byte(b)})
		wantScore(t, c)
		wantScore(t, c+"5")
		wantScore(t, "("+c)
		wantScore(t, c+"inf")
	}
}

func TestP9_4_ScoresAtTheEnds(t *testing.T) {
	for _, s := range []string{"9223372036854775807", "-9223372036854775808"} {
		for _, open := range []string{"", "("} {
			if b, e := match.Score([]byte(open + s)); e != api.OK || b.Far != 0 || b.Open != (open != "") || b.Score != math.MaxInt64 && b.Score != math.MinInt64 {
				t.Errorf("Score(%q) = %v, %d", open+s, b, e)
			}
			wantScore(t, open+s)
			wantScore(t, open+s+"0")
		}
	}
	for _, s := range []string{"9223372036854775806", "9223372036854775808", "-9223372036854775807", "-9223372036854775809", "18446744073709551616", strings.Repeat("9", 5000), "-" + strings.Repeat("9", 5000)} {
		wantScore(t, s)
		wantScore(t, "("+s)
	}
}

// wantLex holds Lex's answer.
func wantLex(t *testing.T, s string, want api.LexBound, e api.Errno) {
	t.Helper()
	got, f := match.Lex([]byte(s))
	if f != e || got.Far != want.Far || string(got.Text) != string(want.Text) || got.Open != want.Open {
		t.Fatalf("Lex(%.80q) = %v, %d, want %v, %d", s, got, f, want, e)
	}
}

func TestP9_5_Lex(t *testing.T) {
	none := api.LexBound{}
	wantLex(t, "", none, api.ErrLex)
	wantLex(t, "-", api.LexBound{Far: -1}, api.OK)
	wantLex(t, "+", api.LexBound{Far: 1}, api.OK)
	for _, text := range []string{"", "a", "-", "+", "[", "(", "(a", "[a", "\x00", "\xff\xfe", " a ", strings.Repeat("x", 5000)} {
		wantLex(t, "["+text, api.LexBound{Text: []byte(text)}, api.OK)
		wantLex(t, "("+text, api.LexBound{Text: []byte(text), Open: true}, api.OK)
		if text != "" {
			wantLex(t, "-"+text, none, api.ErrLex)
			wantLex(t, "+"+text, none, api.ErrLex)
		}
	}
	for b := range 256 {
		c := string([]byte{byte(b)})
		wantLex(t, "["+c, api.LexBound{Text: []byte(c)}, api.OK)
		wantLex(t, "("+c, api.LexBound{Text: []byte(c), Open: true}, api.OK)
		if !strings.Contains("-+[(", c) {
			wantLex(t, c, none, api.ErrLex)
			wantLex(t, c+"[a", none, api.ErrLex)
			wantLex(t, c+"-", none, api.ErrLex)
		}
	}
}

// letIn tells, by the chapter's words, whether both ends let in what compares with their own as below and above say.
func letIn(loFar, hiFar int, overLo, underHi, isLo, isHi, loOpen, hiOpen bool) bool {
	lo := loFar < 0 || loFar == 0 && (overLo || isLo && !loOpen)
	hi := hiFar > 0 || hiFar == 0 && (underHi || isHi && !hiOpen)
	return lo && hi
}

var fars = []int{math.MinInt, math.MinInt + 1, -1 << 32, -2, -1, 0, 1, 2, 1 << 32, math.MaxInt - 1, math.MaxInt}

func TestP9_6_InScore(t *testing.T) {
	scores := []int64{math.MinInt64, math.MinInt64 + 1, -6, -5, -1, 0, 1, 5, 6, math.MaxInt64 - 1, math.MaxInt64}
	var bounds []api.Bound
	for _, far := range fars {
		for _, s := range scores {
			bounds = append(bounds, api.Bound{Far: far, Score: s}, api.Bound{Far: far, Score: s, Open: true})
		}
	}
	for _, lo := range bounds {
		for _, hi := range bounds {
			for _, s := range scores {
				want := letIn(lo.Far, hi.Far, s > lo.Score, s < hi.Score, s == lo.Score, s == hi.Score, lo.Open, hi.Open)
				if got := match.InScore(lo, hi, s); got != want {
					t.Fatalf("InScore(%v, %v, %d) = %v", lo, hi, s, got)
				}
			}
		}
	}
}

func TestP9_6_InLex(t *testing.T) {
	// In Go strings are ordered by their bytes.
	members := []string{"", "\x00", "A", "a", "a\x00", "a\xff", "ab", "b", "é", "\xff", "\xff\xff"}
	var bounds []api.LexBound
	for _, far := range fars {
		for _, m := range members {
			bounds = append(bounds, api.LexBound{Far: far, Text: []byte(m)}, api.LexBound{Far: far, Text: []byte(m), Open: true})
		}
	}
	for _, lo := range bounds {
		for _, hi := range bounds {
			for _, m := range members {
				l, h := string(lo.Text), string(hi.Text)
				want := letIn(lo.Far, hi.Far, m > l, m < h, m == l, m == h, lo.Open, hi.Open)
				if got := match.InLex(lo, hi, []byte(m)); got != want {
					t.Fatalf("InLex(%v, %v, %q) = %v", lo, hi, m, got)
				}
			}
		}
	}
}

func TestP9_6_WhatIsReadLetsIn(t *testing.T) {
	for _, c := range []struct {
		lo, hi, in string
		want       bool
	}{
		{"-inf", "+inf", "0", true}, {"+inf", "-inf", "0", false}, {"(-inf", "(inf", "-9223372036854775808", true}, {"5", "5", "5", true}, {"(5", "5", "5", false}, {"5", "(5", "5", false}, {"(4", "(6", "5", true}, {"6", "4", "5", false},
	} {
		lo, _ := match.Score([]byte(c.lo))
		hi, _ := match.Score([]byte(c.hi))
		s, _ := match.Score([]byte(c.in))
		if got := match.InScore(lo, hi, s.Score); got != c.want {
			t.Errorf("%s from %s to %s: %v", c.in, c.lo, c.hi, got)
		}
	}
	for _, c := range []struct {
		lo, hi, in string
		want       bool
	}{
		{"-", "+", "", true}, {"+", "-", "", false}, {"[", "[", "", true}, {"(", "+", "", false}, {"[b", "(c", "bz", true}, {"[b", "(c", "c", false}, {"(b", "[c", "b", false}, {"(b", "[c", "c", true}, {"(b", "[c", "ca", false},
	} {
		lo, _ := match.Lex([]byte(c.lo))
		hi, _ := match.Lex([]byte(c.hi))
		if got := match.InLex(lo, hi, []byte(c.in)); got != c.want {
			t.Errorf("%q from %s to %s: %v", c.in, c.lo, c.hi, got)
		}
	}
}
