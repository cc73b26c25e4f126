package rows

import (
	"larder/api"
	"larder/chain"
	"larder/command"
	"larder/match"
)

// length: LLEN key.
func (c *call) length() api.Reply {
	return c.look(c.Next(), command.Int(0), func(l *chain.List) api.Reply {
		return command.Int(l.Len())
	})
}

// window: LRANGE key start stop.
func (c *call) window() api.Reply {
	key := c.Next()
	start := c.Number()
	stop := c.Number()
	return c.look(key, command.Bulks(nil), func(l *chain.List) api.Reply {
		found, _ := l.Slice(match.Window(start, stop, l.Len()))
		return command.Bulks(found)
	})
}

// element: LINDEX key index.
func (c *call) element() api.Reply {
	key := c.Next()
	index := c.Number()
	return c.look(key, api.Nil(), func(l *chain.List) api.Reply {
		i, there := at(index, l.Len())
		if !there {
			return api.Nil()
		}
		b, _ := l.Get(i)
		return api.Bulk(b)
	})
}
