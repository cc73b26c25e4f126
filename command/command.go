// Package command holds what all packages of commands have in common: the steps of R11 in ../shared/DOC.md, and the reading of arguments.
package command

import (
	"larder/api"
	"larder/match"
	"larder/space"
)

// Call is one command, given in a database of a space.
type Call struct {
	Space *space.Space
	DB    int
	Args  [][]byte
	taken int // how many of the arguments have been read
}

// Run carries the command out as one Run of its space, by f, and tells what it is answered with. All that follows below is called inside f.
func (c *Call) Run(now uint64, f func() api.Reply) api.Reply {
	reply, e := c.Space.Run(now, f)
	switch e {
	case api.OK, api.ErrSpaceBusy:
		return reply
	case api.ErrSpaceFull:
		e = api.BadOOM
	}
	return api.Bad(e)
}

// Want gives the command up with an error, unless something holds that must; it comes back only if it holds.
func (c *Call) Want(holds bool, e api.Errno) {
	if !holds {
		c.Space.Fail(e)
	}
}

// WantRoom gives the command up if what it laid down was refused. The heap has room for whatever the quota allows: where there is none, the cost would lie above it.
func (c *Call) WantRoom(e api.Errno) { c.Want(e == api.OK, api.BadOOM) }

// Begin asks what must hold of every command, and reads its name, folded.
func (c *Call) Begin() string {
	c.Want(len(c.Args) > 0 && len(c.Args) <= api.MaxArgs, api.BadMany)
	for _, a := range c.Args {
		c.Want(len(a) <= api.MaxText, api.BadLong)
	}
	c.Want(c.DB >= 0 && c.DB < api.MaxDB, api.BadDB)
	return match.Fold(c.Next())
}

// WantRow asks whether the name is known, and whether the row that it has takes so many arguments.
func (c *Call) WantRow(row api.Command, known bool) {
	c.Want(known, api.BadName)
	c.Want(Takes(row, len(c.Args)), api.BadArity)
}

// Takes tells whether a row takes so many arguments, the name with them.
func Takes(row api.Command, n int) bool {
	return n == row.Arity || row.Arity < 0 && n >= -row.Arity
}

// IsThere tells whether a key has a value; one of another kind than this is refused.
func (c *Call) IsThere(key []byte, kind int) bool {
	found, _ := c.Space.Find(c.DB, key)
	c.Want(found == api.ValNone || found == kind, api.BadKind)
	return found == kind
}
