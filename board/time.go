package board

import (
	"larder/api"
	"larder/command"
	"larder/word"
)

const perSecond = 1000

// expireInSeconds: EXPIRE key seconds [NX | XX] [GT | LT].
func (c *call) expireInSeconds() api.Reply { return c.expire(c.now(), perSecond) }

// expireInMilliseconds: PEXPIRE key milliseconds [NX | XX] [GT | LT].
func (c *call) expireInMilliseconds() api.Reply { return c.expire(c.now(), 1) }

// expireAtSecond: EXPIREAT key second [NX | XX] [GT | LT].
func (c *call) expireAtSecond() api.Reply { return c.expire(0, perSecond) }

// expireAtMillisecond: PEXPIREAT key millisecond [NX | XX] [GT | LT].
func (c *call) expireAtMillisecond() api.Reply { return c.expire(0, 1) }

// now tells the clock as a number that a deadline may lie below.
func (c *call) now() int64 { return int64(c.Space.Clock()) }

// expire gives a key a deadline that lies so many units behind a time, if it may have it.
func (c *call) expire(from, unit int64) api.Reply {
	key := c.Next()
	at := c.deadline(from, unit)
	o := c.conditions()
	was, there := c.Space.Deadline(c.DB, key)
	laid := there && o.hold(int64(was), at)
	switch {
	case !laid:
	case at <= c.now():
		c.Space.Remove(c.DB, key)
	default:
		c.Space.SetDeadline(c.DB, key, uint64(at))
	}
	return command.Flag(laid)
}

// deadline reads a number, and tells the deadline that it means.
func (c *call) deadline(from, unit int64) int64 {
	n := c.Number()
	c.Want(n <= api.MaxTime, api.BadTime)
	// What lies further back than all of time lies ahead of every clock and deadline, however far: so nothing wraps.
	at := from + unit*max(n, -api.MaxTime)
	c.Want(at <= api.MaxTime, api.BadTime)
	return at
}

// conditions is what must hold of a key's deadline if it is to have another.
type conditions struct{ none, some, less, more bool }

// conditions reads [NX | XX] [GT | LT] in any order.
func (c *call) conditions() conditions {
	var o conditions
	for c.Left() > 0 {
		switch c.OneOf("NX", "XX", "GT", "LT") {
		case "NX":
			c.Once(&o.none, 0, o.some, o.less, o.more)
		case "XX":
			c.Once(&o.some, 0, o.none)
		case "GT":
			c.Once(&o.less, 0, o.none, o.more)
		case "LT":
			c.Once(&o.more, 0, o.none, o.less)
		}
	}
	return o
}

// hold tells whether a key that has the deadline was (0: none) may have the deadline at.
func (o conditions) hold(was, at int64) bool {
	has := was != 0
	return (!o.none || !has) &&
		(!o.some || has) &&
		(!o.less || has && was < at) &&
		(!o.more || !has || was > at)
}

// tellSecondsLeft: TTL key.
func (c *call) tellSecondsLeft() api.Reply {
	return c.tellDeadline(func(at uint64) uint64 { return (at - c.Space.Clock() + perSecond - 1) / perSecond })
}

// tellMillisecondsLeft: PTTL key.
func (c *call) tellMillisecondsLeft() api.Reply {
	return c.tellDeadline(func(at uint64) uint64 { return at - c.Space.Clock() })
}

// tellSecond: EXPIRETIME key.
func (c *call) tellSecond() api.Reply {
	return c.tellDeadline(func(at uint64) uint64 { return at / perSecond })
}

// tellMillisecond: PEXPIRETIME key.
func (c *call) tellMillisecond() api.Reply {
	return c.tellDeadline(func(at uint64) uint64 { return at })
}

// tellDeadline answers what tell tells of a key's deadline; -2, if the key isn't there, and -1, if it has none.
func (c *call) tellDeadline(tell func(at uint64) uint64) api.Reply {
	at, there := c.Space.Deadline(c.DB, c.Next())
	switch {
	case !there:
		return api.Number(-2)
	case at == 0:
		return api.Number(-1)
	}
	return api.Number(int64(tell(at)))
}

// persist: PERSIST key.
func (c *call) persist() api.Reply {
	key := c.Next()
	at, _ := c.Space.Deadline(c.DB, key)
	if at != 0 {
		c.Space.SetDeadline(c.DB, key, 0)
	}
	return command.Flag(at != 0)
}

// tellClock: TIME.
func (c *call) tellClock() api.Reply {
	now := c.Space.Clock()
	// The second number counts millionths of a second.
	return command.Bulks([][]byte{word.Digits(now / perSecond), word.Digits(now % perSecond * 1000)})
}
