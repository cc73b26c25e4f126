package desk

import (
	"larder/api"
	"larder/command"
	"larder/word"
)

// ping: PING [text].
func (c *call) ping() api.Reply {
	if len(c.args) == 1 {
		return api.Status("PONG")
	}
	return api.Bulk(c.args[1])
}

// echo: ECHO text.
func (c *call) echo() api.Reply { return api.Bulk(c.args[1]) }

// selectDB: SELECT n.
func (c *call) selectDB() api.Reply {
	n, e := word.Int(c.args[1])
	if e != api.OK {
		return api.Bad(api.BadInt)
	}
	if n < 0 || n >= api.MaxDB {
		return api.Bad(api.BadDB)
	}
	c.from.db = int(n)
	return command.Done()
}

// quit: QUIT.
func (c *call) quit() api.Reply {
	c.desk.shut(c.conn)
	return command.Done()
}

// reset: RESET.
func (c *call) reset() api.Reply {
	c.from.end()
	c.from.forget()
	c.desk.post.Drop(c.conn)
	c.from.db = 0
	return api.Status("RESET")
}

// save: SAVE.
func (c *call) save() api.Reply {
	c.desk.saved = true
	return command.Done()
}
