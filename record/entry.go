package record

import (
	"bytes"
	"iter"

	"larder/api"
	"larder/word"
)

// A record neither begins nor ends with a zero, so that zeros behind a cut never make it whole.
const (
	firstByte = 0xaa
	lastByte  = 0x55
	headSize  = 1 + 8 + 8 // the first byte, the body's length, the sum of both
)

// mayBeWritten tells whether an entry may stand in a log.
func mayBeWritten(e api.Entry) bool {
	if e.Seq < 1 || e.Now > api.MaxTime || len(e.Group) == 0 || len(e.Group) > api.MaxQueue {
		return false
	}
	for _, act := range e.Group {
		if !mayBeGiven(act) {
			return false
		}
	}
	return true
}

// mayBeGiven tells whether a command may stand in an entry.
func mayBeGiven(act api.Act) bool {
	if act.DB < 0 || act.DB >= api.MaxDB || len(act.Args) == 0 || len(act.Args) > api.MaxArgs {
		return false
	}
	for _, arg := range act.Args {
		if len(arg) > api.MaxText {
			return false
		}
	}
	return true
}

// recordOf writes an entry that may be written.
func recordOf(e api.Entry) []byte {
	body := addEntry(nil, e)
	b := addNumber([]byte{firstByte}, uint64(len(body)))
	b = addNumber(b, word.Sum(b))
	b = append(b, body...)
	b = addNumber(b, word.Sum(body))
	return append(b, lastByte)
}

func addEntry(b []byte, e api.Entry) []byte {
	b = addNumber(b, uint64(e.Seq))
	b = addNumber(b, e.Now)
	return addList(b, e.Group, addAct)
}

func addAct(b []byte, act api.Act) []byte {
	b = addNumber(b, uint8(act.DB))
	return addList(b, act.Args, addText)
}

// entry reads an entry; it need not be one that may be written.
func (r *reader) entry() api.Entry {
	var e api.Entry
	e.Seq = int64(number[uint64](r))
	e.Now = number[uint64](r)
	e.Group = list(r, (*reader).act)
	return e
}

func (r *reader) act() api.Act {
	var act api.Act
	act.DB = int(number[uint8](r))
	act.Args = list(r, (*reader).argument)
	return act
}

// argument reads a text as new memory.
func (r *reader) argument() []byte { return bytes.Clone(r.text()) }

// firstRecord tells the entry with whose record some bytes begin, and the record's length; 0, if they begin with none.
func firstRecord(b []byte) (api.Entry, int) {
	r := reader{rest: b}
	r.take(headSize)
	e := r.entry()
	if r.wrong || !mayBeWritten(e) {
		return api.Entry{}, 0
	}
	// An entry has one record: written anew, it shows whether lengths, sums and ends are right, all at once.
	record := recordOf(e)
	if !bytes.HasPrefix(b, record) {
		return api.Entry{}, 0
	}
	return e, len(record)
}

// follows tells whether an entry may stand right behind another one.
func follows(e, ahead api.Entry) bool {
	return e.Seq-1 == ahead.Seq && e.Now >= ahead.Now
}

// records gives the entries of the longest row of whole records with which a log begins, each with the place where its record ends.
func records(log []byte) iter.Seq2[api.Entry, int] {
	return func(yield func(api.Entry, int) bool) {
		var ahead api.Entry
		end := 0
		for {
			e, size := firstRecord(log[end:])
			if size == 0 || end > 0 && !follows(e, ahead) {
				return
			}
			end += size
			if !yield(e, end) {
				return
			}
			ahead = e
		}
	}
}
