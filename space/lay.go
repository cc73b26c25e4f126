package space

import (
	"bytes"
	"cmp"
	"math/bits"
	"slices"

	"larder/api"
	"larder/blob"
	"larder/chain"
	"larder/rank"
	"larder/table"
)

// lay makes an object of a value that may be, and tells its ref; nothing leads to it yet.
func (s *Space) lay(v api.Value) (uint64, api.Errno) {
	switch v.Kind {
	case api.ValList:
		return s.layList(v.List)
	case api.ValHash:
		return s.layHash(v.Pairs)
	case api.ValSet:
		return s.laySet(v.List)
	case api.ValRank:
		return s.layRank(v.Ranked)
	}
	return blob.New(s.heap, v.Text)
}

func (s *Space) layList(list [][]byte) (uint64, api.Errno) {
	l, e := chain.New(s.heap)
	if e != api.OK {
		return 0, e
	}
	defer l.Close()
	for _, b := range list {
		if e = l.Push(false, b); e != api.OK {
			return 0, e
		}
	}
	return l.Ref(), api.OK
}

func (s *Space) layHash(pairs []api.Pair) (uint64, api.Errno) {
	t, e := table.New(s.heap, s.seed)
	if e != api.OK {
		return 0, e
	}
	defer t.Close()
	for _, p := range pairs {
		value, e := blob.New(s.heap, p.Value)
		if e != api.OK {
			return 0, e
		}
		if _, e = t.Put(p.Field, value, 0, 0); e != api.OK {
			return 0, e
		}
	}
	return t.Ref(), api.OK
}

func (s *Space) laySet(members [][]byte) (uint64, api.Errno) {
	t, e := table.New(s.heap, s.seed)
	if e != api.OK {
		return 0, e
	}
	defer t.Close()
	for _, member := range members {
		if _, e = t.Put(member, 0, 0, 0); e != api.OK {
			return 0, e
		}
	}
	return t.Ref(), api.OK
}

func (s *Space) layRank(members []api.Scored) (uint64, api.Errno) {
	r, e := rank.New(s.heap, s.seed)
	if e != api.OK {
		return 0, e
	}
	defer r.Close()
	for i, m := range slices.SortedFunc(slices.Values(members), inOrder) {
		if _, e = r.Add(m.Member, m.Score, evenLevel(i)); e != api.OK {
			return 0, e
		}
	}
	return r.Ref(), api.OK
}

// inOrder tells how two members of a ranked set stand to each other.
func inOrder(a, b api.Scored) int {
	return cmp.Or(cmp.Compare(a.Score, b.Score), bytes.Compare(a.Member, b.Member))
}

// evenLevel tells the level of place i in a set that is known as a whole: so every second member stands above the others, of these again every second one, and so on. It takes no draw, which what is undone may not.
func evenLevel(i int) int {
	return min(1+bits.TrailingZeros(uint(i+1)), api.MaxLevel)
}
