package rows

import (
	"larder/api"
	"larder/chain"
)

// move: LMOVE source destination LEFT|RIGHT LEFT|RIGHT.
func (c *call) move() api.Reply {
	source := c.Next()
	destination := c.Next()
	fromLeft := c.isLeft()
	toLeft := c.isLeft()
	return c.carry(source, fromLeft, destination, toLeft)
}

// moveRightToLeft: RPOPLPUSH source destination.
func (c *call) moveRightToLeft() api.Reply {
	source := c.Next()
	destination := c.Next()
	return c.carry(source, false, destination, true)
}

// carry takes an element away at an end of a list, and lays it down at an end of another, or of the same.
func (c *call) carry(source []byte, fromLeft bool, destination []byte, toLeft bool) api.Reply {
	c.wantLists(source, destination)
	if !c.isThere(source) {
		return api.Nil()
	}
	// Where both are one list it is empty in between, if it had but this element: within the Run it stays, with its deadline.
	moved := c.edit(source, func(l *chain.List) api.Reply {
		b, _ := l.Pop(fromLeft)
		return api.Bulk(b)
	})
	return c.edit(destination, func(l *chain.List) api.Reply {
		c.WantRoom(l.Push(toLeft, moved.Text))
		return moved
	})
}
