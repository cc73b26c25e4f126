package order

import (
	"larder/api"
	"larder/word"
)

// scoreReply answers a score.
func scoreReply(score int64) api.Reply { return api.Bulk(word.Text(score)) }

// alone is how a member is told without its score.
func alone(m api.Scored) []api.Reply { return []api.Reply{api.Bulk(m.Member)} }

// withScore is how a member is told with its score behind it.
func withScore(m api.Scored) []api.Reply { return append(alone(m), scoreReply(m.Score)) }

// asPair is how a member is told with its score in an array of their own.
func asPair(m api.Scored) []api.Reply { return []api.Reply{api.Array(withScore(m))} }

// flat answers members, each with its score behind it, in one array.
func flat(members []api.Scored) api.Reply { return api.Array(gathered(members, withScore)) }

// answer tells members, flat if they are to be told with their scores.
func answer(members []api.Scored, scored bool) api.Reply {
	if scored {
		return flat(members)
	}
	return api.Array(gathered(members, alone))
}
