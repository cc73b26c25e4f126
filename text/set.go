package text

import (
	"larder/api"
	"larder/command"
)

// setOptions is what stands behind SET's key and value; an option that is not given is the empty word.
type setOptions struct {
	only     string // NX or XX
	get      string // GET
	time     string // EX, PX, EXAT, PXAT or KEEPTTL
	deadline uint64 // that the time means
}

// set: SET key value [NX | XX] [GET] [EX n | PX n | EXAT n | PXAT n | KEEPTTL].
func (c *call) set() api.Reply {
	key, value := c.Next(), c.Next()
	o := c.setOptions()
	var was api.Reply
	if o.get != "" {
		was = command.Found(c.text(key))
	}
	laid := o.only == "" || c.isTaken(key) == (o.only == "XX")
	if laid {
		if o.time == "KEEPTTL" {
			o.deadline, _ = c.Space.Deadline(c.DB, key)
		}
		c.lay(key, value, o.deadline)
	}
	switch {
	case o.get != "":
		return was
	case laid:
		return command.Done()
	}
	return api.Nil()
}

// setOptions reads SET's options.
func (c *call) setOptions() setOptions {
	var o setOptions
	for c.Left() > 0 {
		switch w := c.OneOf("NX", "XX", "GET", "EX", "PX", "EXAT", "PXAT", "KEEPTTL"); w {
		case "NX", "XX":
			c.fill(&o.only, w)
		case "GET":
			c.fill(&o.get, w)
		case "KEEPTTL":
			c.fill(&o.time, w)
		default:
			c.fill(&o.time, w)
			o.deadline = c.deadline(w)
		}
	}
	return o
}

// fill lays an option's word where it or one that excludes it may stand once.
func (c *call) fill(option *string, w string) {
	c.Want(*option == "", api.BadSyntax)
	*option = w
}
