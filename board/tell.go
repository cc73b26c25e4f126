package board

import (
	"larder/api"
	"larder/command"
)

// tellMemory: MEMORY USAGE key, MEMORY USED, MEMORY QUOTA.
func (c *call) tellMemory() api.Reply {
	switch c.OneOf("USAGE", "USED", "QUOTA") {
	case "USAGE":
		return c.tellUsage()
	case "USED":
		c.End()
		return command.Int(c.Space.Cost())
	}
	c.End()
	return command.Int(c.Space.Quota())
}

func (c *call) tellUsage() api.Reply {
	c.Want(c.Left() == 1, api.BadSyntax)
	key := c.Next()
	if !c.isThere(c.DB, key) {
		return api.Nil()
	}
	return command.Int(c.Space.CostOf(c.DB, key))
}

// tellCommands: COMMAND COUNT, COMMAND GETKEYS name argument ..
func (c *call) tellCommands() api.Reply {
	if c.OneOf("COUNT", "GETKEYS") == "COUNT" {
		c.End()
		return command.Int(len(allRows()))
	}
	keys, e := Keys(c.Rest())
	c.Want(e != api.ErrBoardName, api.BadName)
	c.Want(e != api.ErrBoardArity, api.BadArity)
	c.Want(e == api.OK, api.BadSyntax)
	return command.Bulks(keys)
}
