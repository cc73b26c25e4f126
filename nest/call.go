package nest

import (
	"larder/api"
	"larder/command"
	"larder/table"
)

// call is one command while it is carried out, inside a Run.
type call struct {
	command.Call
	kind int // of the values that the command wants: hashes, or sets
}

// carryOut goes through the steps of R11 that all commands have in common, and hands over to the command.
func (c *call) carryOut() api.Reply {
	r, known := find(c.Begin())
	c.WantRow(r.Command, known)
	c.kind = r.kind
	return r.work(c)
}

// isThere tells whether a key has a value of the command's kind; any other kind is refused.
func (c *call) isThere(key []byte) bool { return c.IsThere(key, c.kind) }

// want refuses keys, from the left on, that have any other kind of value.
func (c *call) want(keys ...[]byte) {
	for _, key := range keys {
		c.isThere(key)
	}
}

// look hands the elements of a key over to be read; where there is no such key, none.
func (c *call) look(key []byte, work func(elements) api.Reply) api.Reply {
	if !c.isThere(key) {
		return work(elements{})
	}
	_, ref := c.Space.Find(c.DB, key)
	return c.open(ref, work)
}

// lessen hands the elements of a key over to be taken away; where there is no such key, none.
func (c *call) lessen(key []byte, work func(elements) api.Reply) api.Reply {
	if !c.isThere(key) {
		return work(elements{})
	}
	return c.edit(key, work)
}

// edit hands the elements of a key over to be changed; where there is no such key it makes one.
func (c *call) edit(key []byte, work func(elements) api.Reply) api.Reply {
	c.want(key)
	ref, e := c.Space.Edit(c.DB, key, c.kind)
	c.WantRoom(e)
	return c.open(ref, work)
}

// open opens a table while work is done on it: closed too where the work gives the command up.
func (c *call) open(ref uint64, work func(elements) api.Reply) api.Reply {
	t, e := table.Open(c.Space.Heap(), ref)
	c.Want(e == api.OK, api.BadKind)
	defer t.Close()
	return work(elements{t, c.Space.Heap()})
}
