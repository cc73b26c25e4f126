package text

import "larder/api"

// get: GET key.
func (c *call) get() api.Reply { return told(c.text(c.next())) }

// length: STRLEN key.
func (c *call) length() api.Reply {
	text, _ := c.text(c.next())
	return api.Number(int64(len(text)))
}

// getAndSet: GETSET key value.
func (c *call) getAndSet() api.Reply {
	key := c.next()
	was, there := c.text(key)
	c.lay(key, c.next(), 0)
	return told(was, there)
}

// getAndRemove: GETDEL key.
func (c *call) getAndRemove() api.Reply {
	key := c.next()
	was, there := c.text(key)
	c.space.Remove(c.db, key)
	return told(was, there)
}

// getAndExpire: GETEX key [EX n | PX n | EXAT n | PXAT n | PERSIST].
func (c *call) getAndExpire() api.Reply {
	key := c.next()
	given, deadline := "", uint64(0)
	for c.left() > 0 {
		unit := c.oneOf("EX", "PX", "EXAT", "PXAT", "PERSIST")
		c.want(given == "", api.BadSyntax)
		given = unit
		if unit != "PERSIST" {
			deadline = c.deadline(unit)
		}
	}
	text, there := c.text(key)
	if there && given != "" {
		c.space.SetDeadline(c.db, key, deadline)
	}
	return told(text, there)
}

// setNew: SETNX key value.
func (c *call) setNew() api.Reply {
	key := c.next()
	if c.isThere(key) {
		return api.Number(0)
	}
	c.lay(key, c.next(), 0)
	return api.Number(1)
}

// setAndExpire: SETEX key n value, PSETEX key n value.
func (c *call) setAndExpire() api.Reply {
	key := c.next()
	deadline := c.deadline(c.name)
	c.lay(key, c.next(), deadline)
	return done()
}

// getMany: MGET key ..
func (c *call) getMany() api.Reply {
	var found []api.Reply
	for c.left() > 0 {
		key := c.next()
		if c.kind(key) == api.ValText {
			found = append(found, told(c.text(key)))
		} else {
			found = append(found, api.Nil())
		}
	}
	return api.Array(found)
}

// setMany: MSET key value ..
func (c *call) setMany() api.Reply {
	keys := c.everySecond()
	last := map[string]int{}
	for i, key := range keys {
		last[string(key)] = i
	}
	for i, key := range keys {
		// What a later pair lays over is not laid down at all: the heap need have room only for what stays.
		if last[string(key)] == i {
			c.lay(key, c.args[2*i+2], 0)
		}
	}
	return done()
}

// setManyNew: MSETNX key value ..
func (c *call) setManyNew() api.Reply {
	for _, key := range c.everySecond() {
		if c.isThere(key) {
			return api.Number(0)
		}
	}
	c.setMany()
	return api.Number(1)
}

// everySecond tells the keys of a command that has a value behind each.
func (c *call) everySecond() [][]byte {
	var keys [][]byte
	for i := 1; i < len(c.args); i += 2 {
		keys = append(keys, c.args[i])
	}
	return keys
}
