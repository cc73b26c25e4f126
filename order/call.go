package order

import (
	"larder/api"
	"larder/command"
	"larder/rank"
	"larder/word"
)

// call is one command while it is carried out, inside a Run.
type call struct{ command.Call }

// carryOut goes through the steps of R11 that all commands have in common, and hands over to the command.
func (c *call) carryOut() api.Reply {
	name := c.Begin()
	row, known := find(name)
	c.WantRow(row, known)
	return handler(name)(c)
}

// isThere tells whether a key has a ranked set; any other kind of value is refused.
func (c *call) isThere(key []byte) bool { return c.IsThere(key, api.ValRank) }

// members tells all that a key's ranked set holds, in its order.
func (c *call) members(key []byte) []api.Scored {
	c.isThere(key)
	v, _ := c.Space.Value(c.DB, key)
	return v.Ranked
}

// look hands the ranked set of a key over to be asked; where there is no such key, the empty one.
func (c *call) look(key []byte, work func(ranked) api.Reply) api.Reply {
	if !c.isThere(key) {
		return work(ranked{})
	}
	_, ref := c.Space.Find(c.DB, key)
	return c.open(ref, work)
}

// lessen hands the ranked set of a key over to be taken from; where there is no such key, the empty one.
func (c *call) lessen(key []byte, work func(ranked) api.Reply) api.Reply {
	if !c.isThere(key) {
		return work(ranked{})
	}
	return c.edit(key, work)
}

// edit hands the ranked set of a key over to be changed; where there is no such key it makes one.
func (c *call) edit(key []byte, work func(ranked) api.Reply) api.Reply {
	c.isThere(key)
	ref, e := c.Space.Edit(c.DB, key, api.ValRank)
	c.WantRoom(e)
	return c.open(ref, work)
}

// open opens a ranked set while work is done on it: closed too where the work gives the command up.
func (c *call) open(ref uint64, work func(ranked) api.Reply) api.Reply {
	r, e := rank.Open(c.Space.Heap(), ref)
	c.Want(e == api.OK, api.BadKind)
	defer r.Close()
	return work(ranked{r})
}

// lay lays members under a key as its ranked set, in the place of what is there, and answers how many they are.
func (c *call) lay(key []byte, members []api.Scored) api.Reply {
	c.WantRoom(c.Space.Store(c.DB, key, api.Value{Kind: api.ValRank, Ranked: members}))
	return command.Int(len(members))
}

// sum adds two scores, if the sum is one.
func (c *call) sum(a, b int64) int64 {
	n, e := word.Add(a, b)
	c.Want(e == api.OK, api.BadOver)
	return n
}
