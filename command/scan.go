package command

import (
	"larder/api"
	"larder/match"
	"larder/word"
)

// Page is what a scan is asked for: from which cursor on, how many, and which of those.
type Page struct {
	Cursor  uint64
	Count   int
	Type    string // folded; empty: any
	pattern []byte
}

// Page reads cursor [MATCH pattern] [COUNT n], to the end; where types are named, which stand folded, [TYPE type] too.
func (c *Call) Page(types ...string) Page {
	cursor, e := word.Uint(c.Next())
	c.Want(e == api.OK, api.BadCursor)
	p := Page{Cursor: cursor, Count: 10, pattern: []byte("*")}
	options := []string{"MATCH", "COUNT"}
	if len(types) > 0 {
		options = append(options, "TYPE")
	}
	matched, counted, typed := false, false, false
	for c.Left() > 0 {
		switch c.OneOf(options...) {
		case "MATCH":
			c.Once(&matched, 1)
			p.pattern = c.Next()
		case "COUNT":
			c.Once(&counted, 1)
			// No value has more elements than that, so more are never meant.
			p.Count = int(min(c.NumberFrom(1), api.MaxReply))
		case "TYPE":
			c.Once(&typed, 1)
			p.Type = c.OneOf(types...)
		}
	}
	return p
}

// Answer tells where to go on from, and of the names that were met those that fit, each as tell tells it.
func (p Page) Answer(next uint64, names [][]byte, tell func(name []byte) [][]byte) api.Reply {
	var found [][]byte
	for _, name := range names {
		if match.Glob(p.pattern, name) {
			found = append(found, tell(name)...)
		}
	}
	return api.Array([]api.Reply{api.Bulk(word.Digits(next)), Bulks(found)})
}
