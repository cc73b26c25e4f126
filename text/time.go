package text

import "larder/api"

const perSecond = 1000

// deadline reads a time, and tells the deadline that it means behind such a word, or as an argument of such a command.
func (c *call) deadline(unit string) uint64 {
	c.Want(c.Left() > 0, api.BadSyntax)
	n := c.Number()
	// Whatever the unit, no deadline is less than its number: what is above MaxTime already may go, and what is left is multiplied and added within a word.
	c.Want(n >= 1 && n <= api.MaxTime, api.BadTime)
	at := uint64(n)
	switch unit {
	case "EX", "SETEX":
		at *= perSecond
		fallthrough
	case "PX", "PSETEX":
		at += c.Space.Clock()
	case "EXAT":
		at *= perSecond
	}
	c.Want(at <= api.MaxTime, api.BadTime)
	return at
}
