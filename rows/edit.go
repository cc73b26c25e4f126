package rows

import (
	"bytes"

	"larder/api"
	"larder/chain"
	"larder/command"
	"larder/match"
)

// set: LSET key index element.
func (c *call) set() api.Reply {
	key := c.Next()
	index := c.Number()
	element := c.Next()
	c.Want(c.isThere(key), api.BadKey)
	return c.edit(key, func(l *chain.List) api.Reply {
		i, there := at(index, l.Len())
		c.Want(there, api.BadRange)
		c.WantRoom(l.Set(i, element))
		return command.Done()
	})
}

// insert: LINSERT key BEFORE|AFTER pivot element.
func (c *call) insert() api.Reply {
	key := c.Next()
	where := c.OneOf("BEFORE", "AFTER")
	pivot := c.Next()
	element := c.Next()
	return c.change(key, command.Int(0), func(l *chain.List) api.Reply {
		i := first(l, pivot)
		if i < 0 {
			return command.Int(-1)
		}
		if where == "AFTER" {
			i++
		}
		c.WantRoom(l.Insert(i, element))
		return command.Int(l.Len())
	})
}

// first tells the number of the leftmost element that equals b; -1, if none does.
func first(l *chain.List, b []byte) int {
	for i, one := range l.All() {
		if bytes.Equal(one, b) {
			return i
		}
	}
	return -1
}

// strike: LREM key count element.
func (c *call) strike() api.Reply {
	key := c.Next()
	count := c.Number()
	element := c.Next()
	return c.change(key, command.Int(0), func(l *chain.List) api.Reply {
		gone, _ := l.Strike(count >= 0, some(count, l.Len()), element)
		return command.Int(gone)
	})
}

// trim: LTRIM key start stop.
func (c *call) trim() api.Reply {
	key := c.Next()
	start := c.Number()
	stop := c.Number()
	return c.change(key, command.Done(), func(l *chain.List) api.Reply {
		from, count := match.Window(start, stop, l.Len())
		l.Cut(from+count, l.Len()-from-count)
		l.Cut(0, from)
		return command.Done()
	})
}
