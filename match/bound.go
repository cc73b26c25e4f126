package match

import (
	"bytes"
	"cmp"

	"larder/api"
	"larder/word"
)

// Score reads an end of a range of scores.
func Score(b []byte) (api.Bound, api.Errno) {
	open := len(b) > 0 && b[0] == '('
	if open {
		b = b[1:]
	}
	switch string(b) {
	case "-inf":
		return api.Bound{Far: -1}, api.OK
	case "inf", "+inf":
		return api.Bound{Far: 1}, api.OK
	}
	n, e := word.Int(b)
	if e != api.OK {
		return api.Bound{}, api.ErrBound
	}
	return api.Bound{Score: n, Open: open}, api.OK
}

// Lex reads an end of a range of members.
func Lex(b []byte) (api.LexBound, api.Errno) {
	switch {
	case string(b) == "-":
		return api.LexBound{Far: -1}, api.OK
	case string(b) == "+":
		return api.LexBound{Far: 1}, api.OK
	case len(b) > 0 && (b[0] == '[' || b[0] == '('):
		return api.LexBound{Text: bytes.Clone(b[1:]), Open: b[0] == '('}, api.OK
	}
	return api.LexBound{}, api.ErrLex
}

// InScore tells whether a score lies between two ends.
func InScore(lo, hi api.Bound, s int64) bool {
	return lets(lo.Far, cmp.Compare(s, lo.Score), lo.Open) && lets(mirrored(hi.Far), cmp.Compare(hi.Score, s), hi.Open)
}

// InLex tells whether a member lies between two ends.
func InLex(lo, hi api.LexBound, m []byte) bool {
	return lets(lo.Far, bytes.Compare(m, lo.Text), lo.Open) && lets(mirrored(hi.Far), bytes.Compare(hi.Text, m), hi.Open)
}

// lets tells whether a lower end lets in what stands to it as order says; an upper end is a lower one with all mirrored round.
func lets(far, order int, open bool) bool {
	if far != 0 {
		return far < 0
	}
	return order > 0 || order == 0 && !open
}

// mirrored tells a number of the other sign. (The least int has none of its size.)
func mirrored(far int) int {
	return cmp.Compare(0, far)
}
