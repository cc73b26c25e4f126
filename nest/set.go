package nest

import (
	"bytes"

	"larder/api"
	"larder/command"
)

// add: SADD key member ..
func (c *call) add() api.Reply {
	return c.edit(c.Next(), func(l elements) api.Reply {
		return c.HowMany(func(member []byte) bool { return c.bring(l, member) })
	})
}

// bring brings a member into a set, and tells whether it is new.
func (c *call) bring(l elements, member []byte) bool {
	fresh, e := l.table.Put(member, 0, 0, 0)
	c.WantRoom(e)
	return fresh
}

// containsMany: SMISMEMBER key member ..
func (c *call) containsMany() api.Reply {
	return c.look(c.Next(), func(l elements) api.Reply {
		return c.Each(func(member []byte) api.Reply { return command.Flag(l.has(member)) })
	})
}

// move: SMOVE from to member.
func (c *call) move() api.Reply {
	from := c.Next()
	to := c.Next()
	member := c.Next()
	c.want(from, to)
	if bytes.Equal(from, to) {
		return c.look(from, func(l elements) api.Reply { return command.Flag(l.has(member)) })
	}
	moved := c.lessen(from, func(l elements) api.Reply { return command.Flag(l.take(member)) })
	if moved.Num == 0 {
		return moved
	}
	return c.edit(to, func(l elements) api.Reply {
		c.bring(l, member)
		return moved
	})
}

// pop: SPOP key [count].
func (c *call) pop() api.Reply {
	key := c.Next()
	if c.Left() == 0 {
		return c.lessen(key, func(l elements) api.Reply {
			for _, member := range l.takeLeast(1) {
				return api.Bulk(member)
			}
			return api.Nil()
		})
	}
	count := c.NumberFrom(0)
	c.End()
	return c.lessen(key, func(l elements) api.Reply {
		return command.Bulks(l.takeLeast(count))
	})
}
