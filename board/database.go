package board

import (
	"larder/api"
	"larder/command"
	"larder/match"
)

// size: DBSIZE.
func (c *call) size() api.Reply { return command.Int(c.Space.Size(c.DB)) }

// keys: KEYS pattern.
func (c *call) keys() api.Reply {
	pattern := c.Next()
	var found [][]byte
	for _, key := range c.Space.Keys(c.DB) {
		if match.Glob(pattern, key) {
			found = append(found, key)
		}
	}
	return command.Bulks(found)
}

// scan: SCAN cursor [MATCH pattern] [COUNT n] [TYPE type].
func (c *call) scan() api.Reply {
	page := c.Page("STRING", "LIST", "HASH", "SET", "ZSET")
	next, keys := c.Space.Scan(c.DB, page.Cursor, page.Count)
	return page.Answer(next, keys, func(key []byte) [][]byte {
		if page.Type != "" && page.Type != match.Fold([]byte(typeName(c.kind(key)))) {
			return nil
		}
		return [][]byte{key}
	})
}

// removeOwn: FLUSHDB.
func (c *call) removeOwn() api.Reply {
	c.takeAll(c.DB)
	return command.Done()
}

// removeAll: FLUSHALL.
func (c *call) removeAll() api.Reply {
	for db := range api.MaxDB {
		c.takeAll(db)
	}
	return command.Done()
}

// swap: SWAPDB database database.
func (c *call) swap() api.Reply {
	a, b := c.database(), c.database()
	// All goes ahead of what comes: so the heap never holds anything twice.
	ofA, ofB := c.takeAll(a), c.takeAll(b)
	c.layAll(b, ofA)
	c.layAll(a, ofB)
	return command.Done()
}

// takeAll takes all keys of a database away, and tells what lay there.
func (c *call) takeAll(db int) []holding {
	var found []holding
	for _, key := range c.Space.Keys(db) {
		found = append(found, c.look(db, key))
		c.Space.Remove(db, key)
	}
	return found
}

func (c *call) layAll(db int, list []holding) {
	for _, h := range list {
		c.lay(db, h)
	}
}
