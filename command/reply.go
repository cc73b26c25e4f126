package command

import "larder/api"

// Done answers that a command is carried out.
func Done() api.Reply { return api.Status("OK") }

// Int answers how many there are of something, or which one it is.
func Int(n int) api.Reply { return api.Number(int64(n)) }

// Flag answers 1 for what holds, and 0 for what doesn't.
func Flag(holds bool) api.Reply {
	if holds {
		return api.Number(1)
	}
	return api.Number(0)
}

// Found answers bytes that were looked for; nil, if they aren't there.
func Found(b []byte, there bool) api.Reply {
	if !there {
		return api.Nil()
	}
	return api.Bulk(b)
}

// Bulks answers an array of bulks.
func Bulks(list [][]byte) api.Reply {
	found := make([]api.Reply, 0, len(list))
	for _, b := range list {
		found = append(found, api.Bulk(b))
	}
	return api.Array(found)
}

// Each answers what tell tells of each argument that is left, in their order.
func (c *Call) Each(tell func([]byte) api.Reply) api.Reply {
	var found []api.Reply
	for c.Left() > 0 {
		found = append(found, tell(c.Next()))
	}
	return api.Array(found)
}

// HowMany answers of how many arguments that are left something is told to hold; all of them are asked, from left to right.
func (c *Call) HowMany(holds func([]byte) bool) api.Reply {
	n := 0
	for c.Left() > 0 {
		if holds(c.Next()) {
			n++
		}
	}
	return Int(n)
}
