package rows

import (
	"bytes"

	"larder/api"
	"larder/chain"
	"larder/command"
)

// search is what LPOS is told of how to look.
type search struct {
	rank    int64 // the one that is wanted first, counted from the left, or, below 0, from the right
	count   int64 // how many are wanted; 0: all
	most    int64 // how many elements are looked at; 0: all
	counted bool  // whether COUNT is given
}

// positions: LPOS key element [RANK r] [COUNT c] [MAXLEN m].
func (c *call) positions() api.Reply {
	key := c.Next()
	element := c.Next()
	s := c.search()
	return c.look(key, s.answer(nil), func(l *chain.List) api.Reply {
		list, _ := l.Slice(0, l.Len())
		return s.answer(s.find(list, element))
	})
}

// search reads LPOS's options.
func (c *call) search() search {
	s := search{rank: 1, count: 1}
	ranked, bounded := false, false
	for c.Left() > 0 {
		switch c.OneOf("RANK", "COUNT", "MAXLEN") {
		case "RANK":
			c.Once(&ranked, 1)
			s.rank = c.Number()
			c.Want(s.rank != 0, api.BadRange)
		case "COUNT":
			c.Once(&s.counted, 1)
			s.count = c.NumberFrom(0)
		case "MAXLEN":
			c.Once(&bounded, 1)
			s.most = c.NumberFrom(0)
		}
	}
	return s
}

// find tells the numbers of the elements that are wanted, in the order in which they are found.
func (s search) find(list [][]byte, element []byte) []int {
	var found []int
	for step := range some(s.most, len(list)) {
		i := step
		if s.rank < 0 {
			i = len(list) - 1 - step
		}
		if bytes.Equal(list[i], element) {
			found = append(found, i)
		}
	}
	found = found[size(s.rank, len(found)+1)-1:]
	return found[:some(s.count, len(found))]
}

// answer tells what has been found: all of it where COUNT is given, else the one.
func (s search) answer(found []int) api.Reply {
	var replies []api.Reply
	for _, i := range found {
		replies = append(replies, command.Int(i))
	}
	switch {
	case s.counted:
		return api.Array(replies)
	case len(replies) == 0:
		return api.Nil()
	}
	return replies[0]
}
