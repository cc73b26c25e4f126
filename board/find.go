package board

import (
	"bytes"
	"slices"

	"larder/api"
	"larder/match"
	"larder/space"
)

// finder finds what SORT's patterns lead to in a database. It reads no value twice, however many elements lead to it.
type finder struct {
	space *space.Space
	db    int
	known map[string]api.Value
}

// find tells what a pattern finds for an element, and whether it finds anything.
func (f finder) find(pattern, element []byte) ([]byte, bool) {
	key, field, star := match.Fill(pattern, element)
	if !star {
		return nil, false
	}
	v := f.value(key)
	if len(field) == 0 {
		return v.Text, v.Kind == api.ValText
	}
	at, found := slices.BinarySearchFunc(v.Pairs, field, func(p api.Pair, field []byte) int {
		return bytes.Compare(p.Field, field)
	})
	if !found {
		return nil, false
	}
	return v.Pairs[at].Value, true
}

// value tells the value of a key; the zero one, if there is none.
func (f finder) value(key []byte) api.Value {
	if v, known := f.known[string(key)]; known {
		return v
	}
	v, e := f.space.Value(f.db, key)
	// What isn't there is found out again as fast, and its keys may be many and long.
	if e == api.OK {
		f.known[string(key)] = v
	}
	return v
}
