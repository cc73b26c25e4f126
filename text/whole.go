package text

import (
	"larder/api"
	"larder/command"
)

// get: GET key.
func (c *call) get() api.Reply { return command.Found(c.text(c.Next())) }

// length: STRLEN key.
func (c *call) length() api.Reply {
	text, _ := c.text(c.Next())
	return api.Number(int64(len(text)))
}

// getAndSet: GETSET key value.
func (c *call) getAndSet() api.Reply {
	key := c.Next()
	was, there := c.text(key)
	c.lay(key, c.Next(), 0)
	return command.Found(was, there)
}

// getAndRemove: GETDEL key.
func (c *call) getAndRemove() api.Reply {
	key := c.Next()
	was, there := c.text(key)
	c.Space.Remove(c.DB, key)
	return command.Found(was, there)
}

// getAndExpire: GETEX key [EX n | PX n | EXAT n | PXAT n | PERSIST].
func (c *call) getAndExpire() api.Reply {
	key := c.Next()
	given, deadline := "", uint64(0)
	for c.Left() > 0 {
		unit := c.OneOf("EX", "PX", "EXAT", "PXAT", "PERSIST")
		c.Want(given == "", api.BadSyntax)
		given = unit
		if unit != "PERSIST" {
			deadline = c.deadline(unit)
		}
	}
	text, there := c.text(key)
	if there && given != "" {
		c.Space.SetDeadline(c.DB, key, deadline)
	}
	return command.Found(text, there)
}

// setNew: SETNX key value.
func (c *call) setNew() api.Reply {
	key := c.Next()
	if c.isTaken(key) {
		return api.Number(0)
	}
	c.lay(key, c.Next(), 0)
	return api.Number(1)
}

// setAndExpire: SETEX key n value, PSETEX key n value.
func (c *call) setAndExpire() api.Reply {
	key := c.Next()
	deadline := c.deadline(c.name)
	c.lay(key, c.Next(), deadline)
	return command.Done()
}

// getMany: MGET key ..
func (c *call) getMany() api.Reply {
	var found []api.Reply
	for c.Left() > 0 {
		key := c.Next()
		if c.kind(key) == api.ValText {
			found = append(found, command.Found(c.text(key)))
		} else {
			found = append(found, api.Nil())
		}
	}
	return api.Array(found)
}

// setMany: MSET key value ..
func (c *call) setMany() api.Reply {
	keys := c.everySecond()
	last := map[string]int{}
	for i, key := range keys {
		last[string(key)] = i
	}
	for i, key := range keys {
		// What a later pair lays over is not laid down at all: the heap need have room only for what stays.
		if last[string(key)] == i {
			c.lay(key, c.Args[2*i+2], 0)
		}
	}
	return command.Done()
}

// setManyNew: MSETNX key value ..
func (c *call) setManyNew() api.Reply {
	for _, key := range c.everySecond() {
		if c.isTaken(key) {
			return api.Number(0)
		}
	}
	c.setMany()
	return api.Number(1)
}

// everySecond tells the keys of a command that has a value behind each; none may lack it.
func (c *call) everySecond() [][]byte {
	c.Want(c.Left()%2 == 0, api.BadArity)
	var keys [][]byte
	for i := 1; i < len(c.Args); i += 2 {
		keys = append(keys, c.Args[i])
	}
	return keys
}
