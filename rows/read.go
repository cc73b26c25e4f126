package rows

import (
	"larder/api"
	"larder/chain"
	"larder/match"
)

// length: LLEN key.
func (c *call) length() api.Reply {
	return c.look(c.Next(), number(0), func(l *chain.List) api.Reply {
		return number(l.Len())
	})
}

// window: LRANGE key start stop.
func (c *call) window() api.Reply {
	key := c.Next()
	start := c.Number()
	stop := c.Number()
	return c.look(key, bulks(nil), func(l *chain.List) api.Reply {
		found, _ := l.Slice(match.Window(start, stop, l.Len()))
		return bulks(found)
	})
}

// element: LINDEX key index.
func (c *call) element() api.Reply {
	key := c.Next()
	index := c.Number()
	return c.look(key, api.Nil(), func(l *chain.List) api.Reply {
		i, there := at(index, l.Len())
		if !there {
			return api.Nil()
		}
		b, _ := l.Get(i)
		return api.Bulk(b)
	})
}
