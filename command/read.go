package command

import (
	"slices"

	"larder/api"
	"larder/match"
	"larder/word"
)

// Left tells how many arguments have not been read yet.
func (c *Call) Left() int { return len(c.Args) - c.taken }

// Next reads an argument that may be any bytes. The caller knows that there is one.
func (c *Call) Next() []byte {
	c.taken++
	return c.Args[c.taken-1]
}

// Number reads an integer.
func (c *Call) Number() int64 { return c.Integer(c.Next()) }

// Integer tells the number that a text spells.
func (c *Call) Integer(text []byte) int64 {
	n, e := word.Int(text)
	c.Want(e == api.OK, api.BadInt)
	return n
}

// NumberFrom reads an integer from least on; what lies below is out of range.
func (c *Call) NumberFrom(least int64) int64 {
	n := c.Number()
	c.Want(n >= least, api.BadRange)
	return n
}

// OneOf reads a word that must be one of these, and tells it folded.
func (c *Call) OneOf(words ...string) string {
	w := match.Fold(c.Next())
	c.Want(slices.Contains(words, w), api.BadSyntax)
	return w
}

// IsNext tells whether there is an argument left to read, and it is one of these words.
func (c *Call) IsNext(words ...string) bool {
	return c.Left() > 0 && slices.Contains(words, match.Fold(c.Args[c.taken]))
}

// Once asks of an option's word that it has not been given before, that so many arguments stand behind it, and that none of those is given which exclude it.
func (c *Call) Once(given *bool, behind int, excluding ...bool) {
	c.Want(!*given && c.Left() >= behind && !slices.Contains(excluding, true), api.BadSyntax)
	*given = true
}

// End asks that no argument is left.
func (c *Call) End() { c.Want(c.Left() == 0, api.BadSyntax) }

// LastNumber reads an option's word with an integer from least on, to the end; where nothing is left to read it tells none.
func (c *Call) LastNumber(option string, least, none int64) int64 {
	if c.Left() == 0 {
		return none
	}
	c.OneOf(option)
	c.Want(c.Left() > 0, api.BadSyntax)
	n := c.NumberFrom(least)
	c.End()
	return n
}

// Keys reads how many keys follow, and the keys; so many arguments at least must stand behind them.
func (c *Call) Keys(behind int) [][]byte {
	n := c.NumberFrom(1)
	c.Want(n <= int64(c.Left()-behind), api.BadSyntax)
	return c.take(int(n))
}

// Rest reads all arguments that are left.
func (c *Call) Rest() [][]byte { return c.take(c.Left()) }

func (c *Call) take(n int) [][]byte {
	var found [][]byte
	for range n {
		found = append(found, c.Next())
	}
	return found
}
