package text

import (
	"larder/api"
	"larder/command"
)

// call is one command while it is carried out, inside a Run.
type call struct {
	command.Call
	name string // folded
}

// carryOut goes through the steps of R11 that all commands have in common, and hands over to the command.
func (c *call) carryOut() api.Reply {
	c.name = c.Begin()
	row, known := find(c.name)
	c.WantRow(row, known)
	return handler(c.name)(c)
}

// numberUpTo reads an integer from 0 to most; what lies outside is the error e.
func (c *call) numberUpTo(most int64, e api.Errno) int {
	n := c.Number()
	c.Want(n >= 0 && n <= most, e)
	return int(n)
}
