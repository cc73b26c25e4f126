package match_test

import (
	"strings"
	"testing"

	"larder/match"
)

// part: a piece of a pattern as the chapter's words say: any text, or one byte of a set.
type part struct {
	star bool
	set  [256]bool
}

// parts reads a pattern from the left.
func parts(pattern string) []part {
	var row []part
	for pattern != "" {
		var p part
		switch {
		case strings.HasPrefix(pattern, "*"):
			p.star = true
			pattern = pattern[1:]
		case strings.HasPrefix(pattern, "?"):
			for b := range p.set {
				p.set[b] = true
			}
			pattern = pattern[1:]
		case strings.HasPrefix(pattern, "["):
			p.set, pattern = classed(pattern[1:])
		default:
			var b byte
			b, pattern = plain(pattern)
			p.set[b] = true
		}
		row = append(row, p)
	}
	return row
}

// classed reads a class behind its '[', and tells what is left of the pattern.
func classed(s string) (set [256]bool, left string) {
	s, not := strings.CutPrefix(s, "^")
	for s != "" && s[0] != ']' {
		var from, to byte
		from, s = plain(s)
		to = from
		if len(s) > 1 && s[0] == '-' && s[1] != ']' {
			to, s = plain(s[1:])
		}
		for b := range set {
			set[b] = set[b] || int(from) <= b && b <= int(to) || int(to) <= b && b <= int(from)
		}
	}
	for b := range set {
		set[b] = set[b] != not
	}
	return set, strings.TrimPrefix(s, "]")
}

// plain reads a byte, or a backslash with one behind it.
func plain(s string) (byte, string) {
	if s[0] == '\\' && len(s) > 1 {
		s = s[1:]
	}
	return s[0], s[1:]
}

// meets asks all ways of cutting the text at once: how many bytes the pieces so far may have taken.
func meets(row []part, text string) bool {
	taken := make([]bool, len(text)+1)
	taken[0] = true
	for _, p := range row {
		next := make([]bool, len(text)+1)
		for n := range taken {
			if p.star {
				next[n] = taken[n] || n > 0 && next[n-1]
			} else {
				next[n] = n > 0 && taken[n-1] && p.set[text[n-1]]
			}
		}
		taken = next
	}
	return taken[len(text)]
}

// wantGlob holds Glob against an answer.
func wantGlob(t *testing.T, pattern, text string, want bool) {
	t.Helper()
	if got := match.Glob([]byte(pattern), []byte(text)); got != want {
		t.Fatalf("Glob(%.200q, %.200q) = %v", pattern, text, got)
	}
}

// every goes through all texts of at most n of the letters.
func every(letters string, n int, do func(s string)) {
	var longer func(s string, left int)
	longer = func(s string, left int) {
		do(s)
		if left == 0 {
			return
		}
		for i := range len(letters) {
			longer(s+letters[i:i+1], left-1)
		}
	}
	longer("", n)
}

// all gathers what every goes through.
func all(letters string, n int) []string {
	var l []string
	every(letters, n, func(s string) { l = append(l, s) })
	return l
}
