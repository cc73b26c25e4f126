package space

import (
	"bytes"
	"slices"

	"larder/api"
)

// objectKind tells the kind of object that a kind of value lies in; 0, if it is no kind of value.
func objectKind(kind int) int {
	switch kind {
	case api.ValText:
		return api.KindBlob
	case api.ValList:
		return api.KindList
	case api.ValHash, api.ValSet:
		return api.KindTable
	case api.ValRank:
		return api.KindRank
	}
	return 0
}

// names tells what may not stand in a value twice: fields or members.
func names(v api.Value) [][]byte {
	var found [][]byte
	switch v.Kind {
	case api.ValHash:
		for _, p := range v.Pairs {
			found = append(found, p.Field)
		}
	case api.ValSet:
		found = append(found, v.List...)
	case api.ValRank:
		for _, m := range v.Ranked {
			found = append(found, m.Member)
		}
	}
	return found
}

// texts tells all texts that a value is made of.
func texts(v api.Value) [][]byte {
	found := names(v)
	switch v.Kind {
	case api.ValText:
		found = append(found, v.Text)
	case api.ValList:
		found = append(found, v.List...)
	case api.ValHash:
		for _, p := range v.Pairs {
			found = append(found, p.Value)
		}
	}
	return found
}

// elements tells how many there are in a value; a text has none.
func elements(v api.Value) int {
	switch v.Kind {
	case api.ValList, api.ValSet:
		return len(v.List)
	case api.ValHash:
		return len(v.Pairs)
	case api.ValRank:
		return len(v.Ranked)
	}
	return 0
}

// isHollow tells whether a value is as good as none: it has no elements, and is no text.
func isHollow(v api.Value) bool { return v.Kind != api.ValText && elements(v) == 0 }

// isSound tells whether a key may have that value.
func isSound(v api.Value) bool {
	for _, text := range texts(v) {
		if len(text) > api.MaxText {
			return false
		}
	}
	found := names(v)
	slices.SortFunc(found, bytes.Compare)
	for i := 1; i < len(found); i++ {
		if bytes.Equal(found[i-1], found[i]) {
			return false
		}
	}
	return true
}

// same tells whether two values, both as read tells them, are one.
func same(v, w api.Value) bool {
	return v.Kind == w.Kind &&
		bytes.Equal(v.Text, w.Text) &&
		slices.EqualFunc(v.List, w.List, bytes.Equal) &&
		slices.EqualFunc(v.Pairs, w.Pairs, samePair) &&
		slices.EqualFunc(v.Ranked, w.Ranked, sameScored)
}

func samePair(a, b api.Pair) bool {
	return bytes.Equal(a.Field, b.Field) && bytes.Equal(a.Value, b.Value)
}

func sameScored(a, b api.Scored) bool {
	return a.Score == b.Score && bytes.Equal(a.Member, b.Member)
}
