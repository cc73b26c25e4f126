package match_test

import (
	"math/rand"
	"strings"
	"testing"
)

// fitting tells the bytes that a pattern fits as texts of one byte.
func fitting(t *testing.T, pattern string, want func(b byte) bool) {
	t.Helper()
	for b := range 256 {
		wantGlob(t, pattern, string([]byte{byte(b)}), want(byte(b)))
	}
	wantGlob(t, pattern, "", false)
}

// among makes the question whether a byte is one of those of s.
func among(s string) func(b byte) bool {
	return func(b byte) bool { return strings.IndexByte(s, b) >= 0 }
}

// but makes the question whether a byte is none of those of s.
func but(s string) func(b byte) bool {
	return func(b byte) bool { return strings.IndexByte(s, b) < 0 }
}

// between makes the question whether a byte lies from one to another.
func between(from, to byte) func(b byte) bool {
	return func(b byte) bool { return from <= b && b <= to }
}

func TestP9_1_EachByteAsAPiece(t *testing.T) {
	fitting(t, "?", but(""))
	for b := range 256 {
		c := string([]byte{byte(b)})
		fitting(t, `\`+c, among(c))
		if !strings.Contains("*?[", c) {
			fitting(t, c, among(c))
		}
		wantGlob(t, `x\`+c+"y", "x"+c+"y", true)
		wantGlob(t, `x\`+c, `x\`+c, false)
	}
	wantGlob(t, `a\`, `a\`, true)
	wantGlob(t, `a\`, "a", false)
	wantGlob(t, `\\`, `\`, true)
	wantGlob(t, `\\`, `\\`, false)
	wantGlob(t, `\\\`, `\\`, true)
	wantGlob(t, `*\`, `\`, true)
	wantGlob(t, `*\`, `a`, false)
}

func TestP9_1_EachByteInAClass(t *testing.T) {
	for b := range 256 {
		c := string([]byte{byte(b)})
		fitting(t, `[\`+c+"]", among(c))
		fitting(t, `[^\`+c+"]", but(c))
		if c != "]" && c != `\` {
			fitting(t, "[q"+c+"]", among("q"+c))
			fitting(t, "[^q"+c+"]", but("q"+c))
			fitting(t, "[q"+c, among("q"+c))
		}
	}
	fitting(t, `[q\`, among(`q\`))
	fitting(t, `[^q\`, but(`q\`))
	fitting(t, `[q]`, among("q"))
}

func TestP9_1_EachRange(t *testing.T) {
	for _, low := range []int{0, 1, '-', 62, 63, 64, 65, ']', 127, 128, 129, 191, 192, 254, 255} {
		for high := low; high < 256; high++ {
			a, b := string([]byte{byte(low)}), string([]byte{byte(high)})
			in := between(byte(low), byte(high))
			fitting(t, `[\`+a+`-\`+b+"]", in)
			fitting(t, `[\`+b+`-\`+a+"]", in)
			fitting(t, `[^\`+b+`-\`+a+"]", func(c byte) bool { return !in(c) })
			fitting(t, `[\`+b+`-\`+a, in)
		}
	}
	fitting(t, "[a-f]", between('a', 'f'))
	fitting(t, "[f-a]", between('a', 'f'))
	fitting(t, "[a-a]", among("a"))
	fitting(t, "[a-cx-z]", among("abcxyz"))
	fitting(t, "[^a-cx-z]", but("abcxyz"))
	fitting(t, "[a-ec-g]", between('a', 'g'))
}

func TestP9_1_EdgesOfAClass(t *testing.T) {
	fitting(t, "[]", among(""))
	fitting(t, "[", among(""))
	fitting(t, "[^]", but(""))
	fitting(t, "[^", but(""))
	fitting(t, "[^^]", but("^"))
	fitting(t, "[a^]", among("a^"))
	fitting(t, `[\^a]`, among("^a"))
	fitting(t, "[-]", among("-"))
	fitting(t, "[-a]", among("-a"))
	fitting(t, "[a-]", among("a-"))
	fitting(t, "[a-", among("a-"))
	fitting(t, "[^a-]", but("a-"))
	fitting(t, "[--]", among("-"))
	fitting(t, "[---]", among("-"))
	fitting(t, "[--0]", among("-./0"))
	fitting(t, "[+--]", among("+,-"))
	fitting(t, "[a-c-e]", among("abc-e"))
	fitting(t, `[a\-c]`, among("a-c"))
	fitting(t, `[\a-c]`, among("abc"))
	fitting(t, `[a-\c]`, among("abc"))
	fitting(t, `[a-\]]`, between(']', 'a'))
	fitting(t, `[a-\`, between('\\', 'a'))
	fitting(t, `[\\-a]`, between('\\', 'a'))
	fitting(t, `[\`, among(`\`))
	fitting(t, `[\]`, among("]"))
	fitting(t, `[\]]`, among("]"))
	fitting(t, "[*?[]", among("*?["))
	wantGlob(t, "[]x", "x", false)
	wantGlob(t, "[]x]", "xx]", false)
	wantGlob(t, "[]]", "]", false)
	wantGlob(t, "[^]]", "q]", true)
	wantGlob(t, "[^]]", "q", false)
	wantGlob(t, "[a-]]", "a]", true)
	wantGlob(t, "[a-]]", "-]", true)
	wantGlob(t, "[a-]]", "a", false)
}

func TestP9_1_AClassOfNothingOrEverything(t *testing.T) {
	for _, nothing := range []string{"[]", "[^\x00-\xff]", "[^\xff-\x00]", "[^\x00-\x7f\x80-\xff]"} {
		for _, text := range []string{"", "a", "ab", nothing} {
			for _, pattern := range []string{nothing, "*" + nothing, nothing + "*", "*" + nothing + "*", "a" + nothing, "*a*" + nothing + "b"} {
				wantGlob(t, pattern, text, false)
			}
		}
	}
	for _, all := range []string{"[^]", "[\x00-\xff]", "[\xff-\x00]", "[\x00-\x7f\x80-\xffq]"} {
		fitting(t, all, but(""))
		wantGlob(t, all+"x*"+all, "axb", true)
		wantGlob(t, all+"x*"+all, "ax", false)
	}
	fitting(t, "[^\x01-\xff]", among("\x00"))
	fitting(t, "[^\x00-\xfe]", among("\xff"))
	fitting(t, "[\x00-\xfe]", but("\xff"))
}

func TestP9_2_EveryShortPattern(t *testing.T) {
	const marks = `*?[]^-\ab`
	texts := all(`ab]-\`, 2)
	every(marks, 5, func(pattern string) {
		row := parts(pattern)
		for _, text := range texts {
			wantGlob(t, pattern, text, meets(row, text))
		}
	})
}

func TestP9_2_EveryShortText(t *testing.T) {
	texts := all("abc", 6)
	every("*?ab", 5, func(pattern string) {
		row := parts(pattern)
		for _, text := range texts {
			wantGlob(t, pattern, text, meets(row, text))
		}
	})
}

// drawn makes a text of at most n of some pieces.
func drawn(r *rand.Rand, n int, pieces ...string) string {
	s := ""
	for range r.Intn(n + 1) {
		s += pieces[r.Intn(len(pieces))]
	}
	return s
}

func TestP9_2_DrawnPatterns(t *testing.T) {
	r := rand.New(rand.NewSource(9))
	for range 60000 {
		pattern := drawn(r, 12, "*", "*", "?", "a", "b", "ab", "[ab]", "[^a]", "[a-c]", "[c-a", "]", `\a`, `\*`, `\`, "[^]", "[\x80-\xff]", "\xe9")
		row := parts(pattern)
		for range 5 {
			text := drawn(r, 20, "a", "b", "ab", "c", "*", "]", `\`, "\xe9", "\x00")
			wantGlob(t, pattern, text, meets(row, text))
		}
	}
}

func TestP9_2_TextsMadeToFit(t *testing.T) {
	r := rand.New(rand.NewSource(10))
	for range 30000 {
		pattern := drawn(r, 10, "*", "*", "?", "a", "[ab]", "[^a]", "[b-c]", "b")
		row := parts(pattern)
		text := ""
		for _, p := range row {
			if p.star {
				text += drawn(r, 6, "a", "b", "c")
				continue
			}
			for {
				if c := "abc"[r.Intn(3)]; p.set[c] {
					text += string([]byte{c})
					break
				}
			}
		}
		wantGlob(t, pattern, text, true)
		wantGlob(t, pattern+"d", text, false)
		wantGlob(t, "d"+pattern, text, false)
	}
}

func TestP9_2_TextsAreBytes(t *testing.T) {
	wantGlob(t, "?", "é", false)
	wantGlob(t, "??", "é", true)
	wantGlob(t, "[é]", "é", false)
	wantGlob(t, "[é][é]", "é", true)
	wantGlob(t, "é*", "épée", true)
	wantGlob(t, "a", "A", false)
	wantGlob(t, "[a-z]", "A", false)
	wantGlob(t, "a\x00b", "a\x00b", true)
	wantGlob(t, "a\x00b", "a", false)
}
