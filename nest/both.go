package nest

import (
	"larder/api"
	"larder/command"
)

// length: HLEN key, SCARD key.
func (c *call) length() api.Reply {
	return c.look(c.Next(), func(l elements) api.Reply {
		return command.Int(l.size())
	})
}

// names: HKEYS key, SMEMBERS key.
func (c *call) names() api.Reply {
	return c.look(c.Next(), func(l elements) api.Reply {
		return command.Bulks(l.names())
	})
}

// contains: HEXISTS key field, SISMEMBER key member.
func (c *call) contains() api.Reply {
	return c.look(c.Next(), func(l elements) api.Reply {
		return command.Flag(l.has(c.Next()))
	})
}

// remove: HDEL key field .., SREM key member ..
func (c *call) remove() api.Reply {
	return c.lessen(c.Next(), func(l elements) api.Reply {
		return c.HowMany(l.take)
	})
}

// scanPairs: HSCAN key cursor [MATCH pattern] [COUNT n].
func (c *call) scanPairs() api.Reply {
	return c.scan(func(l elements, field []byte) [][]byte {
		value, _ := l.value(field)
		return [][]byte{field, value}
	})
}

// scanNames: SSCAN key cursor [MATCH pattern] [COUNT n].
func (c *call) scanNames() api.Reply {
	return c.scan(func(_ elements, member []byte) [][]byte {
		return [][]byte{member}
	})
}

func (c *call) scan(tell func(l elements, name []byte) [][]byte) api.Reply {
	key := c.Next()
	page := c.Page()
	return c.look(key, func(l elements) api.Reply {
		next, names := l.scan(page.Cursor, page.Count)
		return page.Answer(next, names, func(name []byte) [][]byte { return tell(l, name) })
	})
}
