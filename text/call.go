package text

import (
	"slices"

	"larder/api"
	"larder/match"
	"larder/space"
	"larder/word"
)

// call is one command while it is carried out, inside a Run.
type call struct {
	space *space.Space
	db    int
	args  [][]byte
	taken int    // how many of the arguments have been read
	name  string // folded
}

// carryOut goes through the steps of R11 that all commands have in common, and hands over to the command.
func (c *call) carryOut() api.Reply {
	c.want(len(c.args) > 0 && len(c.args) <= api.MaxArgs, api.BadMany)
	for _, a := range c.args {
		c.want(len(a) <= api.MaxText, api.BadLong)
	}
	c.want(c.db >= 0 && c.db < api.MaxDB, api.BadDB)
	c.name = match.Fold(c.next())
	row, known := find(c.name)
	c.want(known, api.BadName)
	c.want(takes(row, len(c.args)), api.BadArity)
	return handler(c.name)(c)
}

// want gives the command up with an error, unless something holds that must; it comes back only if it holds.
func (c *call) want(holds bool, e api.Errno) {
	if !holds {
		c.space.Fail(e)
	}
}

// left tells how many arguments have not been read yet.
func (c *call) left() int { return len(c.args) - c.taken }

// next reads an argument that may be any bytes. The caller knows that there is one.
func (c *call) next() []byte {
	c.taken++
	return c.args[c.taken-1]
}

// number reads an integer.
func (c *call) number() int64 { return c.integer(c.next()) }

// integer tells the number that a text spells.
func (c *call) integer(text []byte) int64 {
	n, e := word.Int(text)
	c.want(e == api.OK, api.BadInt)
	return n
}

// numberUpTo reads an integer from 0 to most; what lies outside is the error e.
func (c *call) numberUpTo(most int64, e api.Errno) int {
	n := c.number()
	c.want(n >= 0 && n <= most, e)
	return int(n)
}

// oneOf reads a word that must be one of these, and tells it folded.
func (c *call) oneOf(words ...string) string {
	w := match.Fold(c.next())
	c.want(slices.Contains(words, w), api.BadSyntax)
	return w
}
