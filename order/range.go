package order

import (
	"larder/api"
	"larder/command"
	"larder/match"
)

// span is which members of a ranked set a command means, and in which order.
type span struct {
	start, stop       int64                 // by place, both counted in
	byScore, byMember bool                  // if neither, it is by place
	within            func(api.Scored) bool // by score or by member
	reversed          bool
	limited           bool
	offset, count     int64 // that it is limited to
	scored            bool  // members are told with their scores
}

// of tells the members that are meant, of all in their order.
func (s span) of(all []api.Scored) []api.Scored {
	if s.reversed {
		all = reversed(all)
	}
	if s.within == nil {
		from, count := match.Window(s.start, s.stop, len(all))
		return cut(all, int64(from), int64(count))
	}
	found := kept(all, s.within)
	if s.limited {
		return cut(found, s.offset, s.count)
	}
	return found
}

// span reads the two ends of a range, and options of these words, to the end. What s says already holds without them.
func (c *call) span(s span, options ...string) span {
	start := c.Next()
	stop := c.Next()
	for c.Left() > 0 {
		switch c.OneOf(options...) {
		case "BYSCORE":
			c.Once(&s.byScore, 0, s.byMember)
		case "BYLEX":
			c.Once(&s.byMember, 0, s.byScore)
		case "REV":
			c.Once(&s.reversed, 0)
		case "LIMIT":
			c.Once(&s.limited, 2)
			s.offset = c.Number()
			s.count = c.Number()
		case "WITHSCORES":
			c.Once(&s.scored, 0)
		}
	}
	c.Want(!s.limited || s.byScore || s.byMember, api.BadSyntax)
	c.Want(!s.scored || !s.byMember, api.BadSyntax)
	c.ends(&s, start, stop)
	return s
}

// ends reads what the options say that the two ends mean.
func (c *call) ends(s *span, start, stop []byte) {
	ends := [][]byte{start, stop}
	if s.reversed {
		ends = reversed(ends)
	}
	switch {
	case s.byScore:
		lo := bound(c, ends[0], match.Score)
		hi := bound(c, ends[1], match.Score)
		s.within = func(m api.Scored) bool { return match.InScore(lo, hi, m.Score) }
	case s.byMember:
		lo := bound(c, ends[0], match.Lex)
		hi := bound(c, ends[1], match.Lex)
		s.within = func(m api.Scored) bool { return match.InLex(lo, hi, m.Member) }
	default:
		s.start = c.Integer(start)
		s.stop = c.Integer(stop)
	}
}

// bound tells the end of a range of scores, or of members, that a text spells.
func bound[B any](c *call, text []byte, read func([]byte) (B, api.Errno)) B {
	b, e := read(text)
	c.Want(e == api.OK, api.BadBound)
	return b
}

// tellRange: ZRANGE key start stop [BYSCORE | BYLEX] [REV] [LIMIT offset count] [WITHSCORES].
func (c *call) tellRange() api.Reply {
	return c.tell(span{}, "BYSCORE", "BYLEX", "REV", "LIMIT", "WITHSCORES")
}

// tellReversed: ZREVRANGE key start stop [WITHSCORES].
func (c *call) tellReversed() api.Reply {
	return c.tell(span{reversed: true}, "WITHSCORES")
}

// tellByScore: ZRANGEBYSCORE key min max [WITHSCORES] [LIMIT offset count].
func (c *call) tellByScore() api.Reply {
	return c.tell(span{byScore: true}, "WITHSCORES", "LIMIT")
}

// tellReversedByScore: ZREVRANGEBYSCORE key max min [WITHSCORES] [LIMIT offset count].
func (c *call) tellReversedByScore() api.Reply {
	return c.tell(span{byScore: true, reversed: true}, "WITHSCORES", "LIMIT")
}

// tellByMember: ZRANGEBYLEX key min max [LIMIT offset count].
func (c *call) tellByMember() api.Reply {
	return c.tell(span{byMember: true}, "LIMIT")
}

// tellReversedByMember: ZREVRANGEBYLEX key max min [LIMIT offset count].
func (c *call) tellReversedByMember() api.Reply {
	return c.tell(span{byMember: true, reversed: true}, "LIMIT")
}

func (c *call) tell(s span, options ...string) api.Reply {
	key := c.Next()
	s = c.span(s, options...)
	return answer(s.of(c.members(key)), s.scored)
}

// layRange: ZRANGESTORE dest key start stop [BYSCORE | BYLEX] [REV] [LIMIT offset count].
func (c *call) layRange() api.Reply {
	to := c.Next()
	key := c.Next()
	s := c.span(span{}, "BYSCORE", "BYLEX", "REV", "LIMIT")
	return c.lay(to, s.of(c.members(key)))
}

// countByScore: ZCOUNT key min max.
func (c *call) countByScore() api.Reply { return c.count(span{byScore: true}) }

// countByMember: ZLEXCOUNT key min max.
func (c *call) countByMember() api.Reply { return c.count(span{byMember: true}) }

func (c *call) count(s span) api.Reply {
	key := c.Next()
	s = c.span(s)
	return command.Int(len(s.of(c.members(key))))
}

// removeByPlace: ZREMRANGEBYRANK key start stop.
func (c *call) removeByPlace() api.Reply { return c.removeRange(span{}) }

// removeByScore: ZREMRANGEBYSCORE key min max.
func (c *call) removeByScore() api.Reply { return c.removeRange(span{byScore: true}) }

// removeByMember: ZREMRANGEBYLEX key min max.
func (c *call) removeByMember() api.Reply { return c.removeRange(span{byMember: true}) }

func (c *call) removeRange(s span) api.Reply {
	key := c.Next()
	s = c.span(s)
	return c.lessen(key, func(r ranked) api.Reply {
		return command.Int(len(r.takeAll(s.of(r.all()))))
	})
}
