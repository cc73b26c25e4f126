package match_test

import (
	"strings"
	"testing"

	"larder/match"
)

func TestP9_7_Fold(t *testing.T) {
	var whole, want []byte
	for b := range 256 {
		c := byte(b)
		up := c
		if i := strings.IndexByte("abcdefghijklmnopqrstuvwxyz", c); i >= 0 {
			up = "ABCDEFGHIJKLMNOPQRSTUVWXYZ"[i]
		}
		if got := match.Fold([]byte{c}); got != string([]byte{up}) {
			t.Errorf("Fold of byte %d: %q", b, got)
		}
		if got := match.Fold([]byte{'x', c, 'Y'}); got != string([]byte{'X', up, 'Y'}) {
			t.Errorf("Fold of byte %d between others: %q", b, got)
		}
		whole, want = append(whole, c), append(want, up)
	}
	if got := match.Fold(whole); got != string(want) {
		t.Errorf("Fold of all bytes: %q", got)
	}
	for s, want := range map[string]string{"": "", "get": "GET", "GeT": "GET", "é ß ı ſ": "é ß ı ſ", "\xff\xc3": "\xff\xc3", "a\x00b": "A\x00B", "@`{[": "@`{["} {
		if got := match.Fold([]byte(s)); got != want {
			t.Errorf("Fold(%q) = %q", s, got)
		}
	}
}

// fill follows the chapter's words, place by place.
func fill(pattern, text string) (key, field string, star bool) {
	at := strings.Index(pattern, "*")
	if at < 0 {
		return "", "", false
	}
	part := pattern
	for i := at + 1; i+2 < len(pattern); i++ {
		if pattern[i] == '-' && pattern[i+1] == '>' {
			part, field = pattern[:i], pattern[i+2:]
			break
		}
	}
	return strings.Replace(part, "*", text, 1), field, true
}

// wantFill holds Fill against the chapter's words.
func wantFill(t *testing.T, pattern, text string) {
	t.Helper()
	key, field, star := match.Fill([]byte(pattern), []byte(text))
	k, f, s := fill(pattern, text)
	if string(key) != k || string(field) != f || star != s {
		t.Fatalf("Fill(%.80q, %.80q) = %.80q, %.80q, %v, want %.80q, %.80q, %v", pattern, text, key, field, star, k, f, s)
	}
}

func TestP9_8_EveryShortFill(t *testing.T) {
	every("*->a", 8, func(pattern string) {
		for _, text := range []string{"", "x", "*", "->", "*->y"} {
			wantFill(t, pattern, text)
		}
	})
}

func TestP9_8_OtherFills(t *testing.T) {
	for _, pattern := range []string{"", "#", "nosort", "weight_*", "h:*:x->name", "a->*", "a->*->b->c", "\x00*\xff->\x00", "é*->é", `\*`, "[*]", "?*->?", "* ->x", "*- >x", "*-\x00>x"} {
		for _, text := range []string{"", "1", "two words", "\x00", "\xff*", "->", strings.Repeat("x", 5000)} {
			wantFill(t, pattern, text)
		}
	}
	for b := range 256 {
		c := string([]byte{byte(b)})
		wantFill(t, c, "x")
		wantFill(t, "*->"+c, "x")
		wantFill(t, "*-"+c+"y", "x")
		wantFill(t, "*"+c+">y", "x")
		wantFill(t, c+"->y", "x")
		wantFill(t, "w*"+c, c)
	}
	long := strings.Repeat("y->", 5000)
	wantFill(t, long+"*"+long, "x")
	wantFill(t, "*"+strings.Repeat("-", 5000)+">", "x")
	wantFill(t, strings.Repeat("*", 5000), "x")
}
