package wire

import "larder/api"

// The parts of the array form that end in CR and LF: the first two are numbers, and so the part says what a number is the number of.
const (
	partCount = iota // the number of arguments
	partSize         // the number of an argument's bytes
	partText         // an argument's bytes
)

// Parser takes a stream of requests, piece by piece.
type Parser struct {
	next   func(c byte) api.Errno // what the next byte means; it answers why the stream breaks there, or OK
	part   int
	number int      // the last number that was read
	left   int      // the arguments that the request still lacks
	text   []byte   // what has come of a line, of a number or of an argument
	args   [][]byte // the request's arguments that are whole
	whole  [][][]byte
	held   int
	broken api.Errno
}

// New makes a parser at the beginning of a stream.
func New() *Parser {
	p := &Parser{}
	p.next = p.begin
	return p
}

// Feed takes the next bytes and tells the commands that are whole with them.
func (p *Parser) Feed(b []byte) ([][][]byte, api.Errno) {
	if p.broken != api.OK {
		return nil, p.broken
	}
	for _, c := range b {
		p.held++
		if e := p.next(c); e != api.OK {
			whole := p.whole
			*p = Parser{broken: e}
			return whole, e
		}
	}
	whole := p.whole
	p.whole = nil
	return whole, api.OK
}

// Broken tells why the stream is broken, or OK.
func (p *Parser) Broken() api.Errno { return p.broken }

// Held tells how many bytes of a command that is not yet whole are held.
func (p *Parser) Held() int { return p.held }

// begin takes a request's first byte.
func (p *Parser) begin(c byte) api.Errno {
	if c == '*' {
		p.part, p.next = partCount, p.digit
		return api.OK
	}
	p.next = p.line
	return p.line(c)
}

// line takes a byte of a line, or the LF behind it.
func (p *Parser) line(c byte) api.Errno {
	if c != lf {
		if len(p.text) == api.MaxLine {
			return api.ErrWireLine
		}
		p.text = append(p.text, c)
		return api.OK
	}
	words, e := Line(p.text)
	if e == api.OK {
		p.end(words)
	}
	return e
}

// digit takes a byte of a number, or the CR behind it.
func (p *Parser) digit(c byte) api.Errno {
	least, most, refusal := bounds(p.part)
	if n, ok := number(p.text, least, most); ok && c == cr {
		p.number, p.text = int(n), nil
		p.next = p.lineFeed
		return api.OK
	}
	p.text = append(p.text, c)
	if !begun(p.text, least, most) {
		return refusal
	}
	return api.OK
}

// bounds tells between which numbers a part's number lies, and the error where it doesn't.
func bounds(part int) (least, most int64, refusal api.Errno) {
	if part == partCount {
		return none, api.MaxArgs, api.ErrWireCount
	}
	return 0, api.MaxText, api.ErrWireBulk
}

// lineFeed takes the LF behind a part's CR.
func (p *Parser) lineFeed(c byte) api.Errno {
	if c != lf {
		return api.ErrWireEnd
	}
	switch p.part {
	case partCount:
		p.left = max(p.number, 0)
		p.awaitArgument()
	case partSize:
		p.text = make([]byte, 0, p.number)
		p.part, p.next = partText, p.argument
	case partText:
		p.args, p.text = append(p.args, p.text), nil
		p.left--
		p.awaitArgument()
	}
	return api.OK
}

// awaitArgument waits for the next argument, or ends the request if none is lacking.
func (p *Parser) awaitArgument() {
	if p.left == 0 {
		p.end(p.args)
		return
	}
	p.next = p.dollar
}

// dollar takes the first byte of an argument's form.
func (p *Parser) dollar(c byte) api.Errno {
	if c != '$' {
		return api.ErrWireBulk
	}
	p.part, p.next = partSize, p.digit
	return api.OK
}

// argument takes a byte of an argument, or the CR behind them all.
func (p *Parser) argument(c byte) api.Errno {
	if len(p.text) < p.number {
		p.text = append(p.text, c)
		return api.OK
	}
	if c != cr {
		return api.ErrWireEnd
	}
	p.next = p.lineFeed
	return api.OK
}

// end makes the request whole: it is a command if it has arguments. What is told is no longer kept.
func (p *Parser) end(args [][]byte) {
	if len(args) > 0 {
		p.whole = append(p.whole, args)
	}
	p.text, p.args, p.held = nil, nil, 0
	p.next = p.begin
}
