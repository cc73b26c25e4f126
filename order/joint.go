package order

import (
	"bytes"
	"cmp"
	"slices"

	"larder/api"
)

// joint is which keys are combined, and how a member's scores become one.
type joint struct {
	keys    [][]byte
	weights []int64 // what the scores of each key are multiplied with
	join    string  // SUM, MIN or MAX of the products
	scored  bool    // members are told with their scores
}

// tellUnion: ZUNION keys .. [WEIGHTS weight ..] [AGGREGATE SUM|MIN|MAX] [WITHSCORES].
func (c *call) tellUnion() api.Reply {
	return c.tellJoint(inAny, "WEIGHTS", "AGGREGATE", "WITHSCORES")
}

// tellIntersection: ZINTER keys .. [WEIGHTS weight ..] [AGGREGATE SUM|MIN|MAX] [WITHSCORES].
func (c *call) tellIntersection() api.Reply {
	return c.tellJoint(inAll, "WEIGHTS", "AGGREGATE", "WITHSCORES")
}

// tellDifference: ZDIFF keys .. [WITHSCORES].
func (c *call) tellDifference() api.Reply {
	return c.tellJoint(inFirstAlone, "WITHSCORES")
}

func (c *call) tellJoint(stays choice, options ...string) api.Reply {
	j := c.joint(options...)
	return answer(c.combined(j, stays), j.scored)
}

// layUnion: ZUNIONSTORE dest keys .. [WEIGHTS weight ..] [AGGREGATE SUM|MIN|MAX].
func (c *call) layUnion() api.Reply { return c.layJoint(inAny, "WEIGHTS", "AGGREGATE") }

// layIntersection: ZINTERSTORE dest keys .. [WEIGHTS weight ..] [AGGREGATE SUM|MIN|MAX].
func (c *call) layIntersection() api.Reply { return c.layJoint(inAll, "WEIGHTS", "AGGREGATE") }

// layDifference: ZDIFFSTORE dest keys ..
func (c *call) layDifference() api.Reply { return c.layJoint(inFirstAlone) }

func (c *call) layJoint(stays choice, options ...string) api.Reply {
	to := c.Next()
	j := c.joint(options...)
	return c.lay(to, c.combined(j, stays))
}

// countIntersection: ZINTERCARD keys .. [LIMIT limit].
func (c *call) countIntersection() api.Reply {
	keys := c.Keys(0)
	limit := c.LastNumber("LIMIT", 0, 0)
	// No scores are asked for: that their sum is too great does not matter here.
	n := int64(len(c.shares(keys, inAll)))
	if limit > 0 {
		n = min(n, limit)
	}
	return api.Number(n)
}

// joint reads counted keys, and options of these words, to the end.
func (c *call) joint(options ...string) joint {
	j := joint{keys: c.Keys(0), join: "SUM"}
	j.weights = slices.Repeat([]int64{1}, len(j.keys))
	weighted, joined := false, false
	for c.Left() > 0 {
		switch c.OneOf(options...) {
		case "WEIGHTS":
			c.Once(&weighted, len(j.keys))
			for i := range j.weights {
				j.weights[i] = c.Number()
			}
		case "AGGREGATE":
			c.Once(&joined, 1)
			j.join = c.OneOf("SUM", "MIN", "MAX")
		case "WITHSCORES":
			c.Once(&j.scored, 0)
		}
	}
	return j
}

// share is a member as one of the keys has it.
type share struct {
	api.Scored
	key int // which of the keys
}

func byMember(a, b share) int { return bytes.Compare(a.Member, b.Member) }

// choice tells by a member's shares, in the order of so many keys, whether the member is in the result.
type choice func(shares []share, keys int) bool

func inAny([]share, int) bool { return true }

func inAll(shares []share, keys int) bool { return len(shares) == keys }

func inFirstAlone(shares []share, _ int) bool { return len(shares) == 1 && shares[0].key == 0 }

// shares tells the shares of each member that is in the result.
func (c *call) shares(keys [][]byte, stays choice) [][]share {
	var all []share
	for i, key := range keys {
		own := gathered(c.scoredMembers(key), func(m api.Scored) []share { return []share{{m, i}} })
		slices.SortFunc(own, byMember)
		all = merged(all, own, byMember)
	}
	return kept(runs(all, byMember), func(shares []share) bool { return stays(shares, len(keys)) })
}

// scoredMembers tells the members of a key's ranked set, or of its set, which have the score 1.
func (c *call) scoredMembers(key []byte) []api.Scored {
	v, _ := c.Space.Value(c.DB, key)
	if v.Kind == api.ValSet {
		return gathered(v.List, func(member []byte) []api.Scored { return []api.Scored{{Member: member, Score: 1}} })
	}
	return c.members(key)
}

// combined tells the result, in its order.
func (c *call) combined(j joint, stays choice) []api.Scored {
	var found []api.Scored
	for _, shares := range c.shares(j.keys, stays) {
		found = append(found, api.Scored{Member: shares[0].Member, Score: c.joined(j, shares)})
	}
	slices.SortFunc(found, func(a, b api.Scored) int {
		return cmp.Or(cmp.Compare(a.Score, b.Score), bytes.Compare(a.Member, b.Member))
	})
	return found
}

// joined tells the score that a member has in the result.
func (c *call) joined(j joint, shares []share) int64 {
	score := int64(0)
	for i, s := range shares {
		n, fits := product(s.Score, j.weights[s.key])
		c.Want(fits, api.BadOver)
		switch {
		case i == 0:
			score = n
		case j.join == "MIN":
			score = min(score, n)
		case j.join == "MAX":
			score = max(score, n)
		default:
			score = c.sum(score, n)
		}
	}
	return score
}

// product multiplies two numbers, and tells whether what comes out is an int64.
func product(a, b int64) (int64, bool) {
	if a == 0 || b == 0 {
		return 0, true
	}
	n := a * b
	// The sign is asked too: the least number divided by -1 wraps round to itself.
	return n, n/b == a && (n < 0) == ((a < 0) != (b < 0))
}
