package order

import (
	"larder/api"
	"larder/command"
)

// size: ZCARD key.
func (c *call) size() api.Reply {
	return c.look(c.Next(), func(r ranked) api.Reply {
		return command.Int(r.size())
	})
}

// score: ZSCORE key member.
func (c *call) score() api.Reply {
	return c.look(c.Next(), func(r ranked) api.Reply {
		return scoreOf(r, c.Next())
	})
}

// scores: ZMSCORE key member ..
func (c *call) scores() api.Reply {
	return c.look(c.Next(), func(r ranked) api.Reply {
		return c.Each(func(member []byte) api.Reply { return scoreOf(r, member) })
	})
}

// scoreOf answers a member's score; nil, if the member isn't there.
func scoreOf(r ranked, member []byte) api.Reply {
	score, there := r.score(member)
	if !there {
		return api.Nil()
	}
	return scoreReply(score)
}

// remove: ZREM key member ..
func (c *call) remove() api.Reply {
	return c.lessen(c.Next(), func(r ranked) api.Reply {
		return c.HowMany(r.take)
	})
}

// place: ZRANK key member [WITHSCORE].
func (c *call) place() api.Reply { return c.tellPlace(ranked.place) }

// reversedPlace: ZREVRANK key member [WITHSCORE].
func (c *call) reversedPlace() api.Reply {
	return c.tellPlace(func(r ranked, member []byte) (int, bool) {
		n, there := r.place(member)
		return r.size() - 1 - n, there
	})
}

// tellPlace reads key member [WITHSCORE], and answers how many stand ahead of the member.
func (c *call) tellPlace(place func(r ranked, member []byte) (int, bool)) api.Reply {
	key := c.Next()
	member := c.Next()
	scored := c.Left() > 0
	if scored {
		c.OneOf("WITHSCORE")
		c.End()
	}
	return c.look(key, func(r ranked) api.Reply {
		n, there := place(r, member)
		switch {
		case there && scored:
			return api.Array([]api.Reply{command.Int(n), scoreOf(r, member)})
		case there:
			return command.Int(n)
		case scored:
			return api.NilArray()
		}
		return api.Nil()
	})
}
