package order

import (
	"larder/api"
	"larder/command"
)

// rules is which members ZADD adds, which it gives another score, and what it answers.
type rules struct {
	onlyNew, onlyOld bool // NX, XX
	up, down         bool // GT, LT
	changes          bool // CH
	increase         bool // INCR
}

// allow tells whether a member may have a score from now on.
func (r rules) allow(was int64, there bool, score int64) bool {
	if !there {
		return !r.onlyOld
	}
	return !r.onlyNew && (!r.up || score > was) && (!r.down || score < was)
}

// add: ZADD key [NX | XX] [GT | LT] [CH] [INCR] score member [score member ..].
func (c *call) add() api.Reply {
	key := c.Next()
	r := c.rules()
	pairs := c.pairs(r.increase)
	return c.edit(key, func(set ranked) api.Reply {
		if r.increase {
			return c.increase(set, r, pairs[0])
		}
		return c.addAll(set, r, pairs)
	})
}

// rules reads ZADD's options, up to the first score.
func (c *call) rules() rules {
	var r rules
	options := [...]string{"NX", "XX", "GT", "LT", "CH", "INCR"}
	for c.IsNext(options[:]...) {
		switch c.OneOf(options[:]...) {
		case "NX":
			c.Once(&r.onlyNew, 1, r.onlyOld, r.up, r.down)
		case "XX":
			c.Once(&r.onlyOld, 1, r.onlyNew)
		case "GT":
			c.Once(&r.up, 1, r.onlyNew, r.down)
		case "LT":
			c.Once(&r.down, 1, r.onlyNew, r.up)
		case "CH":
			c.Once(&r.changes, 1)
		case "INCR":
			c.Once(&r.increase, 1)
		}
	}
	return r
}

// pairs reads scores, each with a member behind it, to the end; alone: just one.
func (c *call) pairs(alone bool) []api.Scored {
	var found []api.Scored
	for c.Left() > 0 {
		c.Want(!alone || len(found) == 0, api.BadSyntax)
		score := c.Number()
		c.Want(c.Left() > 0, api.BadSyntax)
		found = append(found, api.Scored{Member: c.Next(), Score: score})
	}
	return found
}

// addAll gives members their scores, as far as the rules allow it.
func (c *call) addAll(set ranked, r rules, pairs []api.Scored) api.Reply {
	added, changed := 0, 0
	for _, p := range pairs {
		was, there := set.score(p.Member)
		switch {
		case !r.allow(was, there, p.Score):
			continue
		case !there:
			added++
		case was != p.Score:
			changed++
		}
		c.put(set, p)
	}
	if r.changes {
		added += changed
	}
	return command.Int(added)
}

// increaseBy: ZINCRBY key n member.
func (c *call) increaseBy() api.Reply {
	key := c.Next()
	by := c.Number()
	member := c.Next()
	return c.edit(key, func(set ranked) api.Reply {
		return c.increase(set, rules{}, api.Scored{Member: member, Score: by})
	})
}

// increase adds to a member's score, if the rules allow it.
func (c *call) increase(set ranked, r rules, by api.Scored) api.Reply {
	was, there := set.score(by.Member)
	// Where the rules shut the member out, the sum is not asked for.
	if there && r.onlyNew || !there && r.onlyOld {
		return api.Nil()
	}
	sum := c.sum(was, by.Score)
	if !r.allow(was, there, sum) {
		return api.Nil()
	}
	c.put(set, api.Scored{Member: by.Member, Score: sum})
	return scoreReply(sum)
}

// put gives a member a score.
func (c *call) put(set ranked, m api.Scored) {
	_, e := set.set.Add(m.Member, m.Score, c.Space.Level())
	c.WantRoom(e)
}
