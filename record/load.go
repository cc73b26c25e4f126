package record

import (
	"bytes"
	"cmp"
	"slices"

	"larder/api"
	"larder/word"
)

// readState tells the state whose snapshot some bytes are, and whether they are one. Its texts are pieces of these bytes.
func readState(snap []byte) (state, bool) {
	r := reader{rest: snap}
	var t state
	r.want(string(r.take(len(opening))) == opening)
	t.seq = int64(number[uint64](&r))
	t.clock = number[uint64](&r)
	r.want(t.seq >= 0 && t.clock <= api.MaxTime)
	for db := range api.MaxDB {
		t.keys[db] = list(&r, (*reader).holding)
		r.want(areRising(t.keys[db], byKey) && areAhead(t.keys[db], t.clock))
	}
	sum := word.Sum(snap[:len(snap)-len(r.rest)])
	r.want(number[uint64](&r) == sum && len(r.rest) == 0)
	return t, !r.wrong
}

func (r *reader) holding() holding {
	var h holding
	h.key = r.text()
	h.deadline = number[uint64](r)
	h.value = r.value()
	return h
}

// value reads a value that a key may have, in the one order in which it is told.
func (r *reader) value() api.Value {
	v := api.Value{Kind: int(number[uint8](r))}
	switch v.Kind {
	case api.ValText:
		v.Text = r.text()
	case api.ValList:
		v.List = some(r, (*reader).text)
	case api.ValHash:
		v.Pairs = some(r, (*reader).pair)
		r.want(areRising(v.Pairs, byField))
	case api.ValSet:
		v.List = some(r, (*reader).text)
		r.want(areRising(v.List, bytes.Compare))
	case api.ValRank:
		v.Ranked = some(r, (*reader).scored)
		r.want(areRising(v.Ranked, byScore) && areUnique(v.Ranked))
	default:
		r.want(false)
	}
	return v
}

func (r *reader) pair() api.Pair {
	var p api.Pair
	p.Field = r.text()
	p.Value = r.text()
	return p
}

func (r *reader) scored() api.Scored {
	var m api.Scored
	m.Score = int64(number[uint64](r))
	m.Member = r.text()
	return m
}

// some reads a list that may not be empty.
func some[T any](r *reader, one func(*reader) T) []T {
	found := list(r, one)
	r.want(len(found) > 0)
	return found
}

// areRising tells whether each element stands above the one ahead of it.
func areRising[T any](elements []T, compare func(a, b T) int) bool {
	for i := 1; i < len(elements); i++ {
		if compare(elements[i-1], elements[i]) >= 0 {
			return false
		}
	}
	return true
}

func byKey(a, b holding) int { return bytes.Compare(a.key, b.key) }

func byField(a, b api.Pair) int { return bytes.Compare(a.Field, b.Field) }

func byScore(a, b api.Scored) int {
	return cmp.Or(cmp.Compare(a.Score, b.Score), bytes.Compare(a.Member, b.Member))
}

// areUnique tells whether no member stands there twice. (With two scores it might, and still all would be in order.)
func areUnique(members []api.Scored) bool {
	var names [][]byte
	for _, m := range members {
		names = append(names, m.Member)
	}
	slices.SortFunc(names, bytes.Compare)
	return areRising(names, bytes.Compare)
}

// areAhead tells whether all deadlines are times that the clock has yet to reach.
func areAhead(keys []holding, clock uint64) bool {
	for _, h := range keys {
		if h.deadline != 0 && (h.deadline <= clock || h.deadline > api.MaxTime) {
			return false
		}
	}
	return true
}
