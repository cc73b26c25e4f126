package desk

import (
	"slices"

	"larder/api"
	"larder/match"
	"larder/word"
)

// pop is a waiting pop: the data command that pops, the kind of value that it pops from, and what stands behind the key in it.
type pop struct {
	name   string
	kind   int
	behind [][]byte
}

// moves tells whether what is popped goes to another list.
func (p pop) moves() bool { return p.name == "LMOVE" }

// nothing tells what is answered if nothing has come.
func (p pop) nothing() api.Reply {
	if p.moves() {
		return api.Nil()
	}
	return api.NilArray()
}

// popFirst: BLPOP key .. ms.
func (c *call) popFirst() api.Reply { return c.popKeys("LPOP", api.ValList) }

// popLast: BRPOP key .. ms.
func (c *call) popLast() api.Reply { return c.popKeys("RPOP", api.ValList) }

// popLeast: BZPOPMIN key .. ms.
func (c *call) popLeast() api.Reply { return c.popKeys("ZPOPMIN", api.ValRank) }

// popGreatest: BZPOPMAX key .. ms.
func (c *call) popGreatest() api.Reply { return c.popKeys("ZPOPMAX", api.ValRank) }

// popKeys reads: key .. ms.
func (c *call) popKeys(name string, kind int) api.Reply {
	keys := c.args[1 : len(c.args)-1]
	if len(keys) > api.MaxWait {
		return api.Bad(api.BadMany)
	}
	return c.popOrWait(pop{name: name, kind: kind}, keys, nil)
}

// move: BLMOVE src dst from to ms.
func (c *call) move() api.Reply {
	for _, side := range c.args[3:5] {
		if w := match.Fold(side); w != "LEFT" && w != "RIGHT" {
			return api.Bad(api.BadSyntax)
		}
	}
	return c.popOrWait(pop{"LMOVE", api.ValList, c.args[2:5]}, c.args[1:2], c.args[2:3])
}

// popOrWait pops from the first of some keys that has a value, or waits for them; the kinds of further keys are looked at too.
func (c *call) popOrWait(p pop, keys, further [][]byte) api.Reply {
	until, e := c.until()
	if e != api.OK {
		return api.Bad(e)
	}
	places := c.places(keys)
	for _, place := range slices.Concat(places, c.places(further)) {
		if kind := c.desk.kindAt(place); kind != api.ValNone && kind != p.kind {
			return api.Bad(api.BadKind)
		}
	}
	if place, there := c.desk.ready(places, p.kind); there {
		return c.desk.popAt(place, p)
	}
	if c.inExec {
		return p.nothing()
	}
	c.desk.wait.Block(c.conn, p.kind, places, until)
	c.from.pop = pop{p.name, p.kind, cloned(p.behind)}
	return api.Reply{}
}

// until reads the last argument, and tells the time up to which is waited; 0: for ever.
func (c *call) until() (uint64, api.Errno) {
	ms, e := word.Int(c.args[len(c.args)-1])
	if e != api.OK {
		return 0, api.BadInt
	}
	clock := c.desk.space.Clock()
	switch {
	case ms < 0 || uint64(ms) > api.MaxTime-clock:
		return 0, api.BadTime
	case ms == 0:
		return 0, api.OK
	}
	return clock + uint64(ms), api.OK
}

// popAt pops from a place, and tells what the connection is answered that has wanted it.
func (d *Desk) popAt(place api.Place, p pop) api.Reply {
	key := []byte(place.Key)
	reply := d.do(place.DB, slices.Concat([][]byte{[]byte(p.name), key}, p.behind))
	switch {
	case p.moves():
		return reply
	case p.kind == api.ValList:
		return api.Array([]api.Reply{api.Bulk(key), reply})
	}
	return api.Array(append([]api.Reply{api.Bulk(key)}, reply.List...))
}
