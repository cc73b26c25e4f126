package text

import (
	"larder/api"
	"larder/match"
)

const (
	byteBits = 8
	maxBits  = byteBits * api.MaxText // of a text
)

// bitAt tells bit i of a text; behind the text's end it is 0.
func bitAt(text []byte, i int) int {
	if i/byteBits >= len(text) {
		return 0
	}
	return int(text[i/byteBits]>>place(i)) & 1
}

// putBit makes bit i of a text, which is long enough for it, this bit.
func putBit(text []byte, i, bit int) {
	at := i / byteBits
	text[at] = text[at]&^(1<<place(i)) | byte(bit)<<place(i)
}

// place tells where bit i lies in its byte, counted from the lowest bit.
func place(i int) int { return byteBits - 1 - i%byteBits }

// bit reads a bit.
func (c *call) bit() int { return c.numberUpTo(1, api.BadBit) }

// offset reads the number of a bit.
func (c *call) offset() int { return c.numberUpTo(maxBits-1, api.BadRange) }

// getBit: GETBIT key offset.
func (c *call) getBit() api.Reply {
	key, offset := c.Next(), c.offset()
	text, _ := c.text(key)
	return api.Number(int64(bitAt(text, offset)))
}

// setBit: SETBIT key offset bit.
func (c *call) setBit() api.Reply {
	key := c.Next()
	offset := c.offset()
	bit := c.bit()
	text, _ := c.text(key)
	text = longer(text, offset/byteBits+1)
	was := bitAt(text, offset)
	putBit(text, offset, bit)
	c.change(key, text)
	return api.Number(int64(was))
}

// window is what a command on bits is told of where to look.
type window struct {
	start, stop    int64
	started, ended bool   // whether start and stop are given
	unit           string // what they count: BYTE or BIT
}

// window reads [start [stop [BYTE | BIT]]].
func (c *call) window() window {
	w := window{stop: -1, unit: "BYTE"}
	if w.started = c.Left() > 0; w.started {
		w.start = c.Number()
	}
	if w.ended = c.Left() > 0; w.ended {
		w.stop = c.Number()
	}
	if c.Left() > 0 {
		w.unit = c.OneOf("BYTE", "BIT")
	}
	c.End()
	return w
}

// bits tells which bits of a text lie in the window.
func (w window) bits(text []byte) (from, count int) {
	if w.unit == "BIT" {
		return match.Window(w.start, w.stop, byteBits*len(text))
	}
	from, count = match.Window(w.start, w.stop, len(text))
	return byteBits * from, byteBits * count
}

// countBits: BITCOUNT key [start stop [BYTE | BIT]].
func (c *call) countBits() api.Reply {
	key, w := c.Next(), c.window()
	c.Want(w.started == w.ended, api.BadSyntax)
	text, _ := c.text(key)
	from, count := w.bits(text)
	ones := 0
	for i := range count {
		ones += bitAt(text, from+i)
	}
	return api.Number(int64(ones))
}

// findBit: BITPOS key bit [start [stop [BYTE | BIT]]].
func (c *call) findBit() api.Reply {
	key := c.Next()
	bit := c.bit()
	w := c.window()
	text, _ := c.text(key)
	return api.Number(int64(w.first(text, bit)))
}

// first tells the number of the first such bit of a text that lies in the window; -1, if there is none.
func (w window) first(text []byte, bit int) int {
	from, count := w.bits(text)
	for i := range count {
		if bitAt(text, from+i) == bit {
			return from + i
		}
	}
	// A window that nobody has ended goes on behind the text's end, where all bits are 0; so does every one of an empty text.
	open := !w.ended && count > 0 || len(text) == 0
	if bit == 0 && open {
		return byteBits * len(text)
	}
	return -1
}
