package board

import (
	"bytes"

	"larder/api"
	"larder/command"
)

// remove: DEL key ..
func (c *call) remove() api.Reply {
	return c.HowMany(func(key []byte) bool { return c.Space.Remove(c.DB, key) })
}

// countThere: EXISTS key .. and TOUCH key ..
func (c *call) countThere() api.Reply {
	return c.HowMany(func(key []byte) bool { return c.isThere(c.DB, key) })
}

// tellType: TYPE key.
func (c *call) tellType() api.Reply { return api.Status(typeName(c.kind(c.Next()))) }

// typeName tells the word for a kind of value.
func typeName(kind int) string {
	names := [...]string{"none", "string", "list", "hash", "set", "zset"}
	return names[kind]
}

// rename: RENAME key new.
func (c *call) rename() api.Reply {
	key, to := c.named()
	c.carry(key, c.DB, to)
	return command.Done()
}

// renameIfFree: RENAMENX key new.
func (c *call) renameIfFree() api.Reply {
	key, to := c.named()
	free := !c.isThere(c.DB, to)
	if free {
		c.carry(key, c.DB, to)
	}
	return command.Flag(free)
}

// named reads the key to be renamed, which must be there, and its new name.
func (c *call) named() (key, to []byte) {
	key, to = c.Next(), c.Next()
	c.Want(c.isThere(c.DB, key), api.BadKey)
	return key, to
}

// carry moves a key that is there to another place.
func (c *call) carry(key []byte, db int, to []byte) {
	c.Want(c.Space.Move(c.DB, key, db, to), api.BadOOM)
}

// move: MOVE key database.
func (c *call) move() api.Reply {
	key := c.Next()
	db := c.database()
	c.Want(db != c.DB, api.BadSame)
	moves := c.isThere(c.DB, key) && !c.isThere(db, key)
	if moves {
		c.carry(key, db, key)
	}
	return command.Flag(moves)
}

// copyKey: COPY source destination [DB database] [REPLACE].
func (c *call) copyKey() api.Reply {
	from, to := c.Next(), c.Next()
	db, replace := c.copyOptions()
	c.Want(db != c.DB || !bytes.Equal(from, to), api.BadSame)
	copies := c.isThere(c.DB, from) && (replace || !c.isThere(db, to))
	if copies {
		h := c.look(c.DB, from)
		h.key = to
		c.lay(db, h)
	}
	return command.Flag(copies)
}

// copyOptions reads into which database to copy, and whether what is there may be replaced.
func (c *call) copyOptions() (db int, replace bool) {
	db = c.DB
	elsewhere := false
	for c.Left() > 0 {
		switch c.OneOf("DB", "REPLACE") {
		case "DB":
			c.Once(&elsewhere, 1)
			db = c.database()
		case "REPLACE":
			c.Once(&replace, 0)
		}
	}
	return db, replace
}
