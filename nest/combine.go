package nest

import (
	"maps"
	"slices"

	"larder/api"
	"larder/command"
)

// tellUnion: SUNION key ..
func (c *call) tellUnion() api.Reply { return command.Bulks(c.union(c.Rest())) }

// tellIntersection: SINTER key ..
func (c *call) tellIntersection() api.Reply { return command.Bulks(c.intersection(c.Rest())) }

// tellDifference: SDIFF key ..
func (c *call) tellDifference() api.Reply { return command.Bulks(c.difference(c.Rest())) }

// layUnion: SUNIONSTORE to key ..
func (c *call) layUnion() api.Reply { return c.lay(c.union) }

// layIntersection: SINTERSTORE to key ..
func (c *call) layIntersection() api.Reply { return c.lay(c.intersection) }

// layDifference: SDIFFSTORE to key ..
func (c *call) layDifference() api.Reply { return c.lay(c.difference) }

// countIntersection: SINTERCARD count key .. [LIMIT n].
func (c *call) countIntersection() api.Reply {
	keys := c.Keys(0)
	limit := c.LastNumber("LIMIT", 0, 0)
	n := int64(len(c.intersection(keys)))
	if limit != 0 {
		n = min(n, limit)
	}
	return api.Number(n)
}

// lay lays what is combined of the keys' sets under the first key, in the place of what is there, and answers how many members that are.
func (c *call) lay(combined func(keys [][]byte) [][]byte) api.Reply {
	to := c.Next()
	members := combined(c.Rest())
	c.WantRoom(c.Space.Store(c.DB, to, api.Value{Kind: api.ValSet, List: members}))
	return command.Int(len(members))
}

// meeting is how a walk over sets has met a member: in how many of them, and whether in the first one.
type meeting struct {
	times   int
	inFirst bool
}

// union tells the members that are in any of the keys' sets, sorted.
func (c *call) union(keys [][]byte) [][]byte {
	return c.walk(keys, func(m meeting) bool { return m.times > 0 })
}

// intersection tells the members that are in all the keys' sets, sorted.
func (c *call) intersection(keys [][]byte) [][]byte {
	return c.walk(keys, func(m meeting) bool { return m.times == len(keys) })
}

// difference tells the members of the first key's set that are in none of the others', sorted.
func (c *call) difference(keys [][]byte) [][]byte {
	return c.walk(keys, func(m meeting) bool { return m.inFirst && m.times == 1 })
}

// walk goes through the sets of the keys, and tells the members that are to stay, by how it has met them, sorted.
func (c *call) walk(keys [][]byte, stays func(meeting) bool) [][]byte {
	met := map[string]meeting{}
	for i, key := range keys {
		c.look(key, func(l elements) api.Reply {
			for _, member := range l.names() {
				m := met[string(member)]
				met[string(member)] = meeting{m.times + 1, m.inFirst || i == 0}
			}
			return api.Reply{}
		})
	}
	var found [][]byte
	for _, member := range slices.Sorted(maps.Keys(met)) {
		if stays(met[member]) {
			found = append(found, []byte(member))
		}
	}
	return found
}
