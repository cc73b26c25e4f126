package rows

import (
	"larder/api"
	"larder/chain"
	"larder/command"
)

// popLeft: LPOP key [count].
func (c *call) popLeft() api.Reply { return c.pop(true) }

// popRight: RPOP key [count].
func (c *call) popRight() api.Reply { return c.pop(false) }

func (c *call) pop(left bool) api.Reply {
	key := c.Next()
	if c.Left() == 0 {
		return c.change(key, api.Nil(), func(l *chain.List) api.Reply {
			b, _ := l.Pop(left)
			return api.Bulk(b)
		})
	}
	count := c.NumberFrom(0)
	c.End()
	return c.change(key, api.NilArray(), func(l *chain.List) api.Reply {
		return command.Bulks(take(l, left, count))
	})
}

// popFirst: LMPOP numkeys key .. LEFT|RIGHT [COUNT c].
func (c *call) popFirst() api.Reply {
	keys := c.Keys(1)
	left := c.isLeft()
	count := c.LastNumber("COUNT", 1, 1)
	c.wantLists(keys...)
	for _, key := range keys {
		if c.isThere(key) {
			return c.edit(key, func(l *chain.List) api.Reply {
				return api.Array([]api.Reply{api.Bulk(key), command.Bulks(take(l, left, count))})
			})
		}
	}
	return api.NilArray()
}

// take takes so many elements away at an end, or all there are, and tells them in the order in which they go.
func take(l *chain.List, left bool, count int64) [][]byte {
	var found [][]byte
	for range size(count, l.Len()) {
		b, _ := l.Pop(left)
		found = append(found, b)
	}
	return found
}
