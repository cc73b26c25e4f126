package text

import (
	"larder/api"
	"larder/match"
	"larder/word"
)

// appendText: APPEND key value.
func (c *call) appendText() api.Reply {
	key := c.Next()
	text, _ := c.text(key)
	return api.Number(int64(c.change(key, text, c.Next())))
}

// getRange: GETRANGE key start stop.
func (c *call) getRange() api.Reply {
	key := c.Next()
	start := c.Number()
	stop := c.Number()
	text, _ := c.text(key)
	from, count := match.Window(start, stop, len(text))
	return api.Bulk(text[from : from+count])
}

// setRange: SETRANGE key offset value.
func (c *call) setRange() api.Reply {
	key := c.Next()
	offset := c.numberUpTo(api.MaxText, api.BadRange)
	value := c.Next()
	text, _ := c.text(key)
	if len(value) == 0 {
		return api.Number(int64(len(text)))
	}
	text = longer(text, offset)
	behind := min(offset+len(value), len(text))
	return api.Number(int64(c.change(key, text[:offset], value, text[behind:])))
}

// raise: INCR key, INCRBY key n.
func (c *call) raise() api.Reply { return c.count(word.Add) }

// lower: DECR key, DECRBY key n.
func (c *call) lower() api.Reply { return c.count(less) }

// count changes a key's number by the number that the command names, 1 where it names none.
func (c *call) count(reckon func(a, b int64) (int64, api.Errno)) api.Reply {
	key, by := c.Next(), int64(1)
	if c.Left() > 0 {
		by = c.Number()
	}
	was := int64(0)
	if text, there := c.text(key); there {
		was = c.Integer(text)
	}
	sum, e := reckon(was, by)
	c.Want(e == api.OK, api.BadOver)
	c.change(key, word.Text(sum))
	return api.Number(sum)
}

// less tells a less b, or that it is no int64. (There are b whose opposite is none, so it can't be left to a sum.)
func less(a, b int64) (int64, api.Errno) {
	rest := a - b
	// It wraps only where the signs of a and b differ, and the rest hasn't got that of a.
	if (a^b)&(a^rest) < 0 {
		return 0, api.ErrOver
	}
	return rest, api.OK
}
