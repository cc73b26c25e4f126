package order

import "larder/api"

// popLeast: ZPOPMIN key [count].
func (c *call) popLeast() api.Reply { return c.pop(ranked.takeLeast) }

// popGreatest: ZPOPMAX key [count].
func (c *call) popGreatest() api.Reply { return c.pop(ranked.takeGreatest) }

func (c *call) pop(take func(r ranked, n int64) []api.Scored) api.Reply {
	key := c.Next()
	count := int64(1)
	if c.Left() > 0 {
		count = c.NumberFrom(0)
		c.End()
	}
	return c.lessen(key, func(r ranked) api.Reply {
		return flat(take(r, count))
	})
}

// popFirst: ZMPOP numkeys key .. MIN|MAX [COUNT count].
func (c *call) popFirst() api.Reply {
	keys := c.Keys(1)
	take := ranked.takeLeast
	if c.OneOf("MIN", "MAX") == "MAX" {
		take = ranked.takeGreatest
	}
	count := c.LastNumber("COUNT", 1, 1)
	// All keys are asked for their kind, also those behind the first that is there.
	there := kept(keys, c.isThere)
	if len(there) == 0 {
		return api.NilArray()
	}
	return c.edit(there[0], func(r ranked) api.Reply {
		return api.Array([]api.Reply{api.Bulk(there[0]), api.Array(gathered(take(r, count), asPair))})
	})
}
