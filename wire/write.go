package wire

import (
	"bytes"

	"larder/api"
	"larder/word"
)

// Command writes a request.
func Command(args [][]byte) ([]byte, api.Errno) {
	if len(args) == 0 || len(args) > api.MaxArgs {
		return nil, api.ErrWireCommand
	}
	b := addNumber(nil, '*', int64(len(args)))
	for _, a := range args {
		if len(a) > api.MaxText {
			return nil, api.ErrWireCommand
		}
		b = addText(b, a)
	}
	return b, api.OK
}

// Encode writes a reply.
func Encode(r api.Reply) ([]byte, api.Errno) {
	if !fit(r, 0) {
		return nil, api.ErrWireReply
	}
	return addReply(nil, r), api.OK
}

// fit tells whether a reply may be written that stands inside so many arrays.
func fit(r api.Reply, inside int) bool {
	noNum, noText, noList := r.Num == 0, len(r.Text) == 0, len(r.List) == 0
	switch r.Kind {
	case api.ReplyStatus, api.ReplyError:
		return noNum && noList && len(r.Text) <= api.MaxLine && !bytes.ContainsAny(r.Text, "\r\n")
	case api.ReplyInt:
		return noText && noList
	case api.ReplyBulk:
		return noNum && noList && len(r.Text) <= api.MaxText
	case api.ReplyNil, api.ReplyNilArray:
		return noNum && noText && noList
	case api.ReplyArray:
		return noNum && noText && fitList(r.List, inside+1)
	}
	return false
}

// fitList tells whether a list's replies may be written inside so many arrays. A list that stands too deep is not looked at: it may even lead back to itself.
func fitList(list []api.Reply, inside int) bool {
	if inside > api.MaxDepth || len(list) > api.MaxReply {
		return false
	}
	for _, r := range list {
		if !fit(r, inside) {
			return false
		}
	}
	return true
}

// addReply writes a fit reply behind b.
func addReply(b []byte, r api.Reply) []byte {
	switch r.Kind {
	case api.ReplyStatus:
		return addLine(b, '+', r.Text)
	case api.ReplyError:
		return addLine(b, '-', r.Text)
	case api.ReplyInt:
		return addNumber(b, ':', r.Num)
	case api.ReplyBulk:
		return addText(b, r.Text)
	case api.ReplyNil:
		return addNumber(b, '$', none)
	case api.ReplyNilArray:
		return addNumber(b, '*', none)
	}
	b = addNumber(b, '*', int64(len(r.List)))
	for _, one := range r.List {
		b = addReply(b, one)
	}
	return b
}

// addLine writes a line behind b that begins with the byte mark.
func addLine(b []byte, mark byte, text []byte) []byte {
	b = append(b, mark)
	b = append(b, text...)
	return append(b, cr, lf)
}

// addNumber writes a line behind b of the byte mark and a number.
func addNumber(b []byte, mark byte, n int64) []byte {
	return addLine(b, mark, word.Text(n))
}

// addText writes a text behind b: the number of its bytes, and the bytes.
func addText(b, text []byte) []byte {
	b = addNumber(b, '$', int64(len(text)))
	b = append(b, text...)
	return append(b, cr, lf)
}
