package text

import (
	"slices"

	"larder/api"
)

// kind tells which kind of value a key has; ValNone, if it isn't there.
func (c *call) kind(key []byte) int {
	kind, _ := c.Space.Find(c.DB, key)
	return kind
}

// isTaken tells whether a key has a value, of whatever kind.
func (c *call) isTaken(key []byte) bool { return c.kind(key) != api.ValNone }

// text tells the text of a key, in memory of the command's own, and whether the key is there. Another kind of value is refused.
func (c *call) text(key []byte) ([]byte, bool) {
	there := c.IsThere(key, api.ValText)
	v, _ := c.Space.Value(c.DB, key)
	return v.Text, there
}

// lay lays a text under a key in the place of what is there, with a deadline, 0: none.
func (c *call) lay(key, text []byte, deadline uint64) {
	c.WantRoom(c.Space.Store(c.DB, key, api.Value{Kind: api.ValText, Text: text}))
	if deadline != 0 {
		c.Space.SetDeadline(c.DB, key, deadline)
	}
}

// change lays a text under a key, made of parts, and leaves the deadline as it is; it tells how many bytes these are.
func (c *call) change(key []byte, parts ...[]byte) int {
	text := slices.Concat(parts...)
	c.Want(len(text) <= api.MaxText, api.BadLong)
	deadline, _ := c.Space.Deadline(c.DB, key)
	c.lay(key, text, deadline)
	return len(text)
}

// longer tells a text with bytes 0 behind its end, if it has fewer than n. It may write into the text's spare room.
func longer(text []byte, n int) []byte {
	return append(text, make([]byte, max(n-len(text), 0))...)
}
