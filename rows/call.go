package rows

import (
	"larder/api"
	"larder/chain"
	"larder/command"
)

// call is one command while it is carried out, inside a Run.
type call struct{ command.Call }

// carryOut goes through the steps of R11 that all commands have in common, and hands over to the command.
func (c *call) carryOut() api.Reply {
	r, known := find(c.Begin())
	c.WantRow(r.Command, known)
	return r.work(c)
}

// isLeft reads LEFT or RIGHT, and tells whether it is LEFT.
func (c *call) isLeft() bool { return c.OneOf("LEFT", "RIGHT") == "LEFT" }

// isThere tells whether a key has a list; any other kind of value is refused.
func (c *call) isThere(key []byte) bool { return c.IsThere(key, api.ValList) }

// wantLists refuses keys, from the left on, that have any other kind of value.
func (c *call) wantLists(keys ...[]byte) {
	for _, key := range keys {
		c.isThere(key)
	}
}

// look hands the list of a key over to be read; where there is none it answers absent.
func (c *call) look(key []byte, absent api.Reply, work func(*chain.List) api.Reply) api.Reply {
	if !c.isThere(key) {
		return absent
	}
	_, ref := c.Space.Find(c.DB, key)
	return c.open(ref, work)
}

// change hands the list of a key over to be changed; where there is none it answers absent.
func (c *call) change(key []byte, absent api.Reply, work func(*chain.List) api.Reply) api.Reply {
	if !c.isThere(key) {
		return absent
	}
	return c.edit(key, work)
}

// edit hands the list of a key over to be changed; where there is none it makes an empty one.
func (c *call) edit(key []byte, work func(*chain.List) api.Reply) api.Reply {
	ref, e := c.Space.Edit(c.DB, key, api.ValList)
	c.WantRoom(e)
	return c.open(ref, work)
}

// open opens a list while work is done on it: closed too where the work gives the command up.
func (c *call) open(ref uint64, work func(*chain.List) api.Reply) api.Reply {
	l, e := chain.Open(c.Space.Heap(), ref)
	c.Want(e == api.OK, api.BadKind)
	defer l.Close()
	return work(l)
}

// size tells a number without its sign, or most, if that is less.
func size(n int64, most int) int {
	if n < 0 {
		// Cut off first: the least number has no opposite.
		n = -max(n, -int64(most))
	}
	return int(min(n, int64(most)))
}

// some tells how many of so many a number means, without its sign; 0 means all.
func some(n int64, all int) int {
	if n == 0 {
		return all
	}
	return size(n, all)
}

// at tells which element of so many an index means, counted from the back if it is below 0, and whether there is one.
func at(index int64, length int) (int, bool) {
	n := int64(length)
	if index < 0 {
		index += n
	}
	if index < 0 || index >= n {
		return 0, false
	}
	return int(index), true
}
