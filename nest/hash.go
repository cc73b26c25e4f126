package nest

import (
	"larder/api"
	"larder/blob"
	"larder/command"
	"larder/word"
)

// get: HGET key field.
func (c *call) get() api.Reply {
	return c.look(c.Next(), func(l elements) api.Reply {
		return command.Found(l.value(c.Next()))
	})
}

// getMany: HMGET key field ..
func (c *call) getMany() api.Reply {
	return c.look(c.Next(), func(l elements) api.Reply {
		return c.Each(func(field []byte) api.Reply { return command.Found(l.value(field)) })
	})
}

// valueLength: HSTRLEN key field.
func (c *call) valueLength() api.Reply {
	return c.look(c.Next(), func(l elements) api.Reply {
		value, _ := l.value(c.Next())
		return command.Int(len(value))
	})
}

// pairs: HGETALL key.
func (c *call) pairs() api.Reply {
	return c.fields(func(field, value []byte) [][]byte { return [][]byte{field, value} })
}

// values: HVALS key.
func (c *call) values() api.Reply {
	return c.fields(func(_, value []byte) [][]byte { return [][]byte{value} })
}

// fields answers what tell tells of each field, in their order.
func (c *call) fields(tell func(field, value []byte) [][]byte) api.Reply {
	return c.look(c.Next(), func(l elements) api.Reply {
		var found [][]byte
		for _, field := range l.names() {
			value, _ := l.value(field)
			found = append(found, tell(field, value)...)
		}
		return command.Bulks(found)
	})
}

// set: HSET key field value ..
func (c *call) set() api.Reply {
	c.Want(len(c.Args)%2 == 0, api.BadArity)
	return c.edit(c.Next(), func(l elements) api.Reply {
		return c.HowMany(func(field []byte) bool { return c.put(l, field, c.Next()) })
	})
}

// setNew: HSETNX key field value.
func (c *call) setNew() api.Reply {
	return c.edit(c.Next(), func(l elements) api.Reply {
		field := c.Next()
		return command.Flag(!l.has(field) && c.put(l, field, c.Next()))
	})
}

// increase: HINCRBY key field by.
func (c *call) increase() api.Reply {
	key := c.Next()
	field := c.Next()
	by := c.Number()
	return c.edit(key, func(l elements) api.Reply {
		sum := by
		if value, there := l.value(field); there {
			var e api.Errno
			sum, e = word.Add(c.Integer(value), by)
			c.Want(e == api.OK, api.BadOver)
		}
		c.put(l, field, word.Text(sum))
		return api.Number(sum)
	})
}

// put lays a value under a field, and tells whether the field is new.
func (c *call) put(l elements, field, value []byte) bool {
	ref, e := blob.New(l.heap, value)
	c.WantRoom(e)
	fresh, e := l.table.Put(field, ref, 0, 0)
	c.WantRoom(e)
	return fresh
}
