package match_test

import (
	"math"
	"strings"
	"testing"

	"larder/api"
	"larder/match"
)

func TestExamplesOfGlob(t *testing.T) {
	for _, c := range [][2]string{{"", ""}, {"*", ""}, {"**", "abc"}, {"a*c", "abbc"}, {"a?c", "abc"}, {"[a-c]x", "bx"}, {"[c-a]x", "bx"}, {"[^a-c]", "d"}, {"[a-]", "-"}, {"[abc", "c"}, {"[^", "q"}, {"\\*", "*"}, {"\\", "\\"}, {"[\\]]", "]"}} {
		wantGlob(t, c[0], c[1], true)
	}
	for _, c := range [][2]string{{"", "a"}, {"?", ""}, {"a*c", "abcd"}, {"a?c", "ac"}, {"[]x", "x"}, {"[", "["}, {"*a*a*a*a*b", strings.Repeat("a", 40)}} {
		wantGlob(t, c[0], c[1], false)
	}
}

func TestExamplesOfWindow(t *testing.T) {
	for _, c := range []struct {
		start, stop    int64
		n, from, count int
	}{
		{0, -1, 5, 0, 5}, {-3, -2, 5, 2, 2}, {1, 100, 5, 1, 4}, {-100, 1, 5, 0, 2}, {3, 2, 5, 0, 0}, {5, 9, 5, 0, 0}, {0, -6, 5, 0, 0}, {0, 0, 0, 0, 0}, {math.MinInt64, math.MaxInt64, 3, 0, 3},
	} {
		if from, count := match.Window(c.start, c.stop, c.n); from != c.from || count != c.count {
			t.Errorf("Window(%d, %d, %d) = %d, %d", c.start, c.stop, c.n, from, count)
		}
	}
}

func TestExamplesOfBounds(t *testing.T) {
	for s, want := range map[string]api.Bound{"5": {Score: 5}, "(-7": {Score: -7, Open: true}, "+inf": {Far: 1}, "(inf": {Far: 1}} {
		if b, e := match.Score([]byte(s)); b != want || e != api.OK {
			t.Errorf("Score(%q) = %v, %d", s, b, e)
		}
	}
	for _, s := range []string{"", "(", "((1", "+5", "1.5", "INF", "9223372036854775808"} {
		if b, e := match.Score([]byte(s)); b != (api.Bound{}) || e != api.ErrBound {
			t.Errorf("Score(%q) = %v, %d", s, b, e)
		}
	}
	wantLex(t, "-", api.LexBound{Far: -1}, api.OK)
	wantLex(t, "[", api.LexBound{}, api.OK)
	wantLex(t, "(ab", api.LexBound{Text: []byte("ab"), Open: true}, api.OK)
	for _, s := range []string{"", "a", "--", "+a"} {
		wantLex(t, s, api.LexBound{}, api.ErrLex)
	}
	if match.InScore(api.Bound{Score: 5, Open: true}, api.Bound{Far: 1}, 5) {
		t.Error("InScore lets an open end in")
	}
	b := api.LexBound{Text: []byte("b")}
	if !match.InLex(b, b, []byte("b")) {
		t.Error("InLex keeps a closed end out")
	}
}

func TestExamplesOfTexts(t *testing.T) {
	if s := match.Fold([]byte("aZ-é")); s != "AZ-é" {
		t.Errorf("Fold: %q", s)
	}
	for _, c := range []struct {
		pattern, text, key, field string
		star                      bool
	}{
		{"w_*", "a", "w_a", "", true}, {"h_*->f", "a", "h_a", "f", true}, {"x", "a", "", "", false}, {"*->", "a", "a->", "", true}, {"a->b*c", "x", "a->bxc", "", true}, {"*->*", "x", "x", "*", true},
	} {
		key, field, star := match.Fill([]byte(c.pattern), []byte(c.text))
		if string(key) != c.key || string(field) != c.field || star != c.star {
			t.Errorf("Fill(%q, %q) = %q, %q, %v", c.pattern, c.text, key, field, star)
		}
	}
}
