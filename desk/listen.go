package desk

import (
	"slices"

	"larder/api"
	"larder/command"
	"larder/match"
)

// subscribe: SUBSCRIBE name ..
func (c *call) subscribe() api.Reply { return c.join("subscribe", false) }

// subscribePatterns: PSUBSCRIBE pattern ..
func (c *call) subscribePatterns() api.Reply { return c.join("psubscribe", true) }

// unsubscribe: UNSUBSCRIBE [name ..].
func (c *call) unsubscribe() api.Reply { return c.part("unsubscribe", false) }

// unsubscribePatterns: PUNSUBSCRIBE [pattern ..].
func (c *call) unsubscribePatterns() api.Reply { return c.part("punsubscribe", true) }

// join comes to listen to names, one out for each.
func (c *call) join(word string, pattern bool) api.Reply {
	names := c.names()
	if c.desk.post.Count(c.conn)+c.news(names, pattern) > api.MaxSubs {
		return api.Bad(api.BadMany)
	}
	for _, name := range names {
		count, _, _ := c.desk.post.Join(c.conn, name, pattern)
		c.tellCount(word, api.Bulk([]byte(name)), count)
	}
	return api.Reply{}
}

// part listens to names no more, without names to none that there is, one out for each.
func (c *call) part(word string, pattern bool) api.Reply {
	names := c.names()
	if len(names) == 0 {
		names = c.desk.post.Names(c.conn, pattern)
	}
	if len(names) == 0 {
		c.tellCount(word, api.Nil(), c.desk.post.Count(c.conn))
	}
	for _, name := range names {
		count, _, _ := c.desk.post.Leave(c.conn, name, pattern)
		c.tellCount(word, api.Bulk([]byte(name)), count)
	}
	return api.Reply{}
}

// names tells the arguments behind the command's name.
func (c *call) names() []string {
	var names []string
	for _, a := range c.args[1:] {
		names = append(names, string(a))
	}
	return names
}

// news tells how many different ones of some names the connection does not listen to yet.
func (c *call) news(names []string, pattern bool) int {
	known := c.desk.post.Names(c.conn, pattern)
	before := len(known)
	for _, name := range names {
		if !slices.Contains(known, name) {
			known = append(known, name)
		}
	}
	return len(known) - before
}

// tellCount lays an out down that tells to how many names the connection listens now.
func (c *call) tellCount(word string, name api.Reply, count int) {
	c.desk.tell(c.conn, api.Array([]api.Reply{api.Bulk([]byte(word)), name, command.Int(count)}))
}

// publish: PUBLISH channel message.
func (c *call) publish() api.Reply {
	hits := c.desk.post.Heard(string(c.args[1]))
	for _, hit := range hits {
		words := [][]byte{[]byte("message"), c.args[1], c.args[2]}
		if hit.Pattern {
			words = [][]byte{[]byte("pmessage"), []byte(hit.Name), c.args[1], c.args[2]}
		}
		c.desk.tell(hit.Conn, command.Bulks(words))
	}
	return command.Int(len(hits))
}

// tellListeners: PUBSUB CHANNELS [pattern], PUBSUB NUMSUB [name ..], PUBSUB NUMPAT.
func (c *call) tellListeners() api.Reply {
	behind := c.args[2:]
	switch match.Fold(c.args[1]) {
	case "CHANNELS":
		if len(behind) > 1 {
			return api.Bad(api.BadArity)
		}
		return c.channels(behind)
	case "NUMSUB":
		return c.countListeners(behind)
	case "NUMPAT":
		if len(behind) > 0 {
			return api.Bad(api.BadArity)
		}
		return command.Int(c.desk.post.Patterns())
	}
	return api.Bad(api.BadSyntax)
}

// channels tells the channels that meet a pattern; all, if none is given.
func (c *call) channels(pattern [][]byte) api.Reply {
	wanted := "*"
	if len(pattern) > 0 {
		wanted = string(pattern[0])
	}
	var found []api.Reply
	for _, channel := range c.desk.post.Channels(wanted) {
		found = append(found, api.Bulk([]byte(channel)))
	}
	return api.Array(found)
}

// countListeners tells of each channel how many listen to it by name.
func (c *call) countListeners(channels [][]byte) api.Reply {
	var found []api.Reply
	for _, channel := range channels {
		found = append(found, api.Bulk(channel), command.Int(c.desk.post.Listeners(string(channel))))
	}
	return api.Array(found)
}
