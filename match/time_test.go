package match_test

import (
	"strings"
	"testing"
	"time"
)

const patience = 10 * time.Second

// soonGlob asks that Glob takes no more than the two lengths multiplied. (A matcher that tries all ways would take years, one that takes the cube of the length minutes.)
func soonGlob(t *testing.T, pattern, text string, want bool) {
	t.Helper()
	start := time.Now()
	wantGlob(t, pattern, text, want)
	if took := time.Since(start); took > patience {
		t.Errorf("Glob of a pattern like %.20q took %v", pattern, took)
	}
}

func TestP9_2_TimeOfManyStars(t *testing.T) {
	text := strings.Repeat("a", 4096)
	soonGlob(t, "*a*a*a*a*b", text[:40], false)
	for _, part := range []string{"*a", "*?", "*[a-z]", "*[^b]", "**", "*aa*", "*aaaaaaaa", `*\a`} {
		many := strings.Repeat(part, 1000/len(part))
		soonGlob(t, many+"b", text, false)
		soonGlob(t, many+"*b", text, false)
		soonGlob(t, many+"b*", text, false)
		soonGlob(t, many+"*", text, true)
	}
	soonGlob(t, strings.Repeat("*a", 4096), text, true)
	soonGlob(t, strings.Repeat("*a", 4097), text, false)
	soonGlob(t, strings.Repeat("*", 100000), text, true)
}

func TestP9_2_TimeOfOneStar(t *testing.T) {
	text := strings.Repeat("a", 20000)
	soonGlob(t, "*"+text[:10000]+"b", text, false)
	soonGlob(t, "*"+text[:10000], text, true)
	soonGlob(t, "*"+text[:10000]+"b*", text, false)
	soonGlob(t, "*"+strings.Repeat("[\x00-\xff]", 4000)+"b", text, false)
	soonGlob(t, "*["+strings.Repeat("\x00-\x60", 4000)+"]", text, false)
	soonGlob(t, "*["+strings.Repeat("b-z", 4000), text, false)
	soonGlob(t, text, text, true)
	soonGlob(t, text+"?", text, false)
}
