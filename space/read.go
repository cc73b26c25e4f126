package space

import (
	"larder/api"
	"larder/blob"
	"larder/chain"
	"larder/rank"
	"larder/table"
)

// read tells the value of an entry as plain data.
func (s *Space) read(n entry) api.Value {
	v := api.Value{Kind: n.kind}
	switch n.kind {
	case api.ValText:
		v.Text, _ = blob.Read(s.heap, n.ref)
	case api.ValList:
		v.List = s.readList(n.ref)
	case api.ValHash:
		v.Pairs = s.readHash(n.ref)
	case api.ValSet:
		v.List = s.readSet(n.ref)
	case api.ValRank:
		v.Ranked = s.readRank(n.ref)
	}
	return v
}

func (s *Space) readList(ref uint64) [][]byte {
	l, e := chain.Open(s.heap, ref)
	if e != api.OK {
		return nil
	}
	defer l.Close()
	found, _ := l.Slice(0, l.Len())
	return found
}

func (s *Space) readHash(ref uint64) []api.Pair {
	t, e := table.Open(s.heap, ref)
	if e != api.OK {
		return nil
	}
	defer t.Close()
	var found []api.Pair
	for _, field := range t.Keys() {
		at, _, _, _ := t.Get(field)
		value, _ := blob.Read(s.heap, at)
		found = append(found, api.Pair{Field: field, Value: value})
	}
	return found
}

func (s *Space) readSet(ref uint64) [][]byte {
	t, e := table.Open(s.heap, ref)
	if e != api.OK {
		return nil
	}
	defer t.Close()
	return t.Keys()
}

func (s *Space) readRank(ref uint64) []api.Scored {
	r, e := rank.Open(s.heap, ref)
	if e != api.OK {
		return nil
	}
	defer r.Close()
	return r.Slice(0, r.Len())
}
