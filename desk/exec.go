package desk

import (
	"larder/api"
	"larder/command"
)

// multi: MULTI.
func (c *call) multi() api.Reply {
	if c.from.open {
		return api.Bad(api.BadNested)
	}
	c.from.begin()
	return command.Done()
}

// discard: DISCARD.
func (c *call) discard() api.Reply {
	if !c.from.open {
		return api.Bad(api.BadDiscard)
	}
	c.from.end()
	c.from.forget()
	return command.Done()
}

// exec: EXEC.
func (c *call) exec() api.Reply {
	if !c.from.open {
		return api.Bad(api.BadExec)
	}
	was := c.from.end()
	disturbed := c.from.forget()
	switch {
	case was.spoilt:
		return api.Bad(api.BadAbort)
	case disturbed:
		return api.NilArray()
	}
	var replies []api.Reply
	for _, args := range was.queue {
		one := call{desk: c.desk, from: c.from, conn: c.conn, args: args, inExec: true}
		replies = append(replies, one.perform())
	}
	return api.Array(replies)
}

// watch: WATCH key ..
func (c *call) watch() api.Reply {
	if c.from.open {
		return api.Bad(api.BadWatch)
	}
	if !c.from.watch(c.places(c.args[1:])) {
		return api.Bad(api.BadMany)
	}
	return command.Done()
}

// unwatch: UNWATCH.
func (c *call) unwatch() api.Reply {
	c.from.forget()
	return command.Done()
}

// places tells the places of keys in the connection's database.
func (c *call) places(keys [][]byte) []api.Place {
	var found []api.Place
	for _, key := range keys {
		found = append(found, api.Place{DB: c.from.db, Key: string(key)})
	}
	return found
}
