package match

import (
	"bytes"
	"slices"
)

// Fold tells a word with its letters a to z made A to Z.
func Fold(b []byte) string {
	folded := bytes.Clone(b)
	for i, c := range folded {
		if 'a' <= c && c <= 'z' {
			folded[i] = c - 'a' + 'A'
		}
	}
	return string(folded)
}

// Fill fills a text into a pattern of SORT.
func Fill(pattern, text []byte) (key, field []byte, star bool) {
	at := bytes.IndexByte(pattern, '*')
	if at < 0 {
		return nil, nil, false
	}
	ahead, rest := pattern[:at], pattern[at+1:]
	// Only the last arrow can have nothing behind it, so no later one need be looked for.
	if tail, name, found := bytes.Cut(rest, []byte("->")); found && len(name) > 0 {
		rest, field = tail, bytes.Clone(name)
	}
	return slices.Concat(ahead, text, rest), field, true
}
