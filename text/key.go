package text

import (
	"slices"

	"larder/api"
)

// kind tells which kind of value a key has; ValNone, if it isn't there.
func (c *call) kind(key []byte) int {
	kind, _ := c.space.Find(c.db, key)
	return kind
}

// isThere tells whether a key has a value, of whatever kind.
func (c *call) isThere(key []byte) bool { return c.kind(key) != api.ValNone }

// text tells the text of a key, in memory of the command's own, and whether the key is there. Another kind of value is refused.
func (c *call) text(key []byte) ([]byte, bool) {
	kind := c.kind(key)
	c.want(kind == api.ValNone || kind == api.ValText, api.BadKind)
	v, _ := c.space.Value(c.db, key)
	return v.Text, kind == api.ValText
}

// told answers a text that a key had; nil, if the key wasn't there.
func told(text []byte, there bool) api.Reply {
	if !there {
		return api.Nil()
	}
	return api.Bulk(text)
}

// done answers that a command is carried out.
func done() api.Reply { return api.Status("OK") }

// lay lays a text under a key in the place of what is there, with a deadline, 0: none.
func (c *call) lay(key, text []byte, deadline uint64) {
	e := c.space.Store(c.db, key, api.Value{Kind: api.ValText, Text: text})
	// The heap has room for whatever the quota allows: where there is none the cost would lie above it.
	c.want(e == api.OK, api.BadOOM)
	if deadline != 0 {
		c.space.SetDeadline(c.db, key, deadline)
	}
}

// change lays a text under a key, made of parts, and leaves the deadline as it is; it tells how many bytes these are.
func (c *call) change(key []byte, parts ...[]byte) int {
	text := slices.Concat(parts...)
	c.want(len(text) <= api.MaxText, api.BadLong)
	deadline, _ := c.space.Deadline(c.db, key)
	c.lay(key, text, deadline)
	return len(text)
}

// longer tells a text with bytes 0 behind its end, if it has fewer than n. It may write into the text's spare room.
func longer(text []byte, n int) []byte {
	return append(text, make([]byte, max(n-len(text), 0))...)
}
