package order

import (
	"bytes"
	"cmp"
	"slices"

	"larder/api"
	"larder/word"
)

// hashed is a member with its hash.
type hashed struct {
	member []byte
	hash   uint64
}

// scan: ZSCAN key cursor [MATCH pattern] [COUNT count].
func (c *call) scan() api.Reply {
	key := c.Next()
	page := c.Page()
	return c.look(key, func(r ranked) api.Reply {
		next, members := pageOf(inHashOrder(c.Space.Seed(), r.all()), page.Cursor, page.Count)
		return page.Answer(next, members, func(member []byte) [][]byte {
			score, _ := r.score(member)
			return [][]byte{member, word.Text(score)}
		})
	})
}

// inHashOrder tells members in the order in which a table of that seed would.
func inHashOrder(seed uint64, members []api.Scored) []hashed {
	found := gathered(members, func(m api.Scored) []hashed {
		return []hashed{{m.Member, word.Hash(seed, m.Member)}}
	})
	slices.SortFunc(found, func(a, b hashed) int {
		return cmp.Or(cmp.Compare(a.hash, b.hash), bytes.Compare(a.member, b.member))
	})
	return found
}

// pageOf tells what a table's Scan would of these, in hash order, for n of 1 or more: the hash to go on from, and the members.
func pageOf(all []hashed, cursor uint64, n int) (uint64, [][]byte) {
	left := kept(all, func(h hashed) bool { return h.hash >= cursor })
	end := min(n, len(left))
	// Those of one hash are told together, as a cursor can't part them.
	for end < len(left) && left[end].hash == left[end-1].hash {
		end++
	}
	next := uint64(0)
	if end < len(left) {
		next = left[end].hash
	}
	return next, gathered(cut(left, 0, int64(end)), func(h hashed) [][]byte { return [][]byte{h.member} })
}
