package board

import (
	"larder/api"
	"larder/command"
)

// call is one of this package's own commands while it is carried out, inside a Run.
type call struct{ command.Call }

// carryOut goes through the steps of R11 that all commands have in common, and hands over to the command.
func (c *call) carryOut() (reply api.Reply) {
	defer func() {
		switch stop := recover().(type) {
		case nil:
		case api.Errno:
			// So what knows of no command, deep inside, tells what is wrong.
			reply = api.Bad(stop)
		default:
			// This is the space's, which has given the command up, or nobody's: it goes on.
			panic(stop)
		}
	}()
	name := c.Begin()
	row, known := findOwn(name)
	c.WantRow(row, known)
	return handler(name)(c)
}

// database reads the number of a database.
func (c *call) database() int {
	n := c.Number()
	c.Want(n >= 0 && n < api.MaxDB, api.BadDB)
	return int(n)
}

// kind tells the kind of value that a key of the database has; none, if it isn't there.
func (c *call) kind(key []byte) int {
	kind, _ := c.Space.Find(c.DB, key)
	return kind
}

// isThere tells whether a key of a database has a value.
func (c *call) isThere(db int, key []byte) bool {
	kind, _ := c.Space.Find(db, key)
	return kind != api.ValNone
}

// holding is what lies under a key.
type holding struct {
	key      []byte
	value    api.Value
	deadline uint64 // 0: none
}

// look tells what lies under a key that is there.
func (c *call) look(db int, key []byte) holding {
	value, _ := c.Space.Value(db, key)
	deadline, _ := c.Space.Deadline(db, key)
	return holding{key, value, deadline}
}

// lay lays something down under its key, in the place of what is there.
func (c *call) lay(db int, h holding) {
	c.WantRoom(c.Space.Store(db, h.key, h.value))
	c.Space.SetDeadline(db, h.key, h.deadline)
}
