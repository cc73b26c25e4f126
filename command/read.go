package command

import (
	"slices"

	"larder/api"
	"larder/match"
	"larder/word"
)

// Left tells how many arguments have not been read yet.
func (c *Call) Left() int { return len(c.Args) - c.taken }

// Next reads an argument that may be any bytes. The caller knows that there is one.
func (c *Call) Next() []byte {
	c.taken++
	return c.Args[c.taken-1]
}

// Number reads an integer.
func (c *Call) Number() int64 { return c.Integer(c.Next()) }

// Integer tells the number that a text spells.
func (c *Call) Integer(text []byte) int64 {
	n, e := word.Int(text)
	c.Want(e == api.OK, api.BadInt)
	return n
}

// NumberFrom reads an integer from least on; what lies below is out of range.
func (c *Call) NumberFrom(least int64) int64 {
	n := c.Number()
	c.Want(n >= least, api.BadRange)
	return n
}

// OneOf reads a word that must be one of these, and tells it folded.
func (c *Call) OneOf(words ...string) string {
	w := match.Fold(c.Next())
	c.Want(slices.Contains(words, w), api.BadSyntax)
	return w
}
