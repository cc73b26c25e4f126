package rows

import (
	"larder/api"
	"larder/chain"
	"larder/command"
)

// pushLeft: LPUSH key element ..
func (c *call) pushLeft() api.Reply { return c.push(c.Next(), true) }

// pushRight: RPUSH key element ..
func (c *call) pushRight() api.Reply { return c.push(c.Next(), false) }

// pushLeftIfThere: LPUSHX key element ..
func (c *call) pushLeftIfThere() api.Reply { return c.pushIfThere(true) }

// pushRightIfThere: RPUSHX key element ..
func (c *call) pushRightIfThere() api.Reply { return c.pushIfThere(false) }

func (c *call) pushIfThere(left bool) api.Reply {
	key := c.Next()
	if !c.isThere(key) {
		return command.Int(0)
	}
	return c.push(key, left)
}

// push lays all arguments that are left down at an end of a key's list.
func (c *call) push(key []byte, left bool) api.Reply {
	c.wantLists(key)
	return c.edit(key, func(l *chain.List) api.Reply {
		for c.Left() > 0 {
			c.WantRoom(l.Push(left, c.Next()))
		}
		return command.Int(l.Len())
	})
}
