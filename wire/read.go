package wire

import (
	"bytes"
	"math"

	"larder/api"
)

// Decode reads the reply with which the bytes begin, and tells how long it is.
func Decode(b []byte) (api.Reply, int, api.Errno) {
	d := decoder{rest: b}
	r, e := d.reply(0)
	if e != api.OK {
		return api.Reply{}, 0, e
	}
	return r, len(b) - len(d.rest), api.OK
}

// decoder goes through the bytes of a reply. Each of its calls answers ErrWireShort where what is left might go on rightly, and ErrWireReply where nothing behind it could mend it.
type decoder struct {
	rest []byte
}

// reply reads a reply that stands inside so many arrays.
func (d *decoder) reply(inside int) (api.Reply, api.Errno) {
	if len(d.rest) == 0 {
		return api.Reply{}, api.ErrWireShort
	}
	mark := d.rest[0]
	d.rest = d.rest[1:]
	switch mark {
	case '+':
		return d.line(api.ReplyStatus)
	case '-':
		return d.line(api.ReplyError)
	case ':':
		n, e := d.number(math.MinInt64, math.MaxInt64)
		return api.Reply{Kind: api.ReplyInt, Num: n}, e
	case '$':
		return d.bulk()
	case '*':
		return d.array(inside)
	}
	return api.Reply{}, api.ErrWireReply
}

// line reads the text of a status or an error.
func (d *decoder) line(kind int) (api.Reply, api.Errno) {
	text := d.rest[:min(len(d.rest), api.MaxLine)]
	if i := bytes.IndexAny(text, "\r\n"); i >= 0 {
		text = text[:i]
	}
	d.rest = d.rest[len(text):]
	return api.Reply{Kind: kind, Text: bytes.Clone(text)}, d.end()
}

// bulk reads a text that may have any bytes, or the lack of one.
func (d *decoder) bulk() (api.Reply, api.Errno) {
	n, e := d.number(none, api.MaxText)
	if e != api.OK || n == none {
		return api.Reply{Kind: api.ReplyNil}, e
	}
	if int64(len(d.rest)) < n {
		return api.Reply{}, api.ErrWireShort
	}
	text := bytes.Clone(d.rest[:n])
	d.rest = d.rest[n:]
	return api.Reply{Kind: api.ReplyBulk, Text: text}, d.end()
}

// array reads a list of replies inside so many other arrays, or the lack of one.
func (d *decoder) array(inside int) (api.Reply, api.Errno) {
	most := int64(api.MaxReply)
	if inside == api.MaxDepth {
		most = none
	}
	n, e := d.number(none, most)
	if e != api.OK || n == none {
		return api.Reply{Kind: api.ReplyNilArray}, e
	}
	// The list grows with what is there: the number may tell of far more than comes.
	var list []api.Reply
	for range n {
		r, e := d.reply(inside + 1)
		if e != api.OK {
			return api.Reply{}, e
		}
		list = append(list, r)
	}
	return api.Reply{Kind: api.ReplyArray, List: list}, api.OK
}

// number reads a number from least to most and the line's end behind it.
func (d *decoder) number(least, most int64) (int64, api.Errno) {
	i := bytes.IndexByte(d.rest, cr)
	if i < 0 {
		if begun(d.rest, least, most) {
			return 0, api.ErrWireShort
		}
		return 0, api.ErrWireReply
	}
	n, ok := number(d.rest[:i], least, most)
	if !ok {
		return 0, api.ErrWireReply
	}
	d.rest = d.rest[i:]
	return n, d.end()
}

// end reads CR and LF.
func (d *decoder) end() api.Errno {
	const crlf = "\r\n"
	have := d.rest[:min(len(d.rest), len(crlf))]
	if string(have) != crlf[:len(have)] {
		return api.ErrWireReply
	}
	if len(have) < len(crlf) {
		return api.ErrWireShort
	}
	d.rest = d.rest[len(crlf):]
	return api.OK
}
