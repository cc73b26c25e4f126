package desk

import (
	"bytes"
	"maps"

	"larder/api"
)

// connection is what is kept of a connection. The zero one is fresh.
type connection struct {
	transaction
	watches
	db     int
	closed bool
	pop    pop     // by which it waits
	held   []piece // what has come since it waits
}

// piece is what comes on a connection at one time: a command, or the end of a broken stream.
type piece struct {
	args   [][]byte
	broken bool
}

// hold keeps a piece back.
func (c *connection) hold(p piece) {
	c.held = append(c.held, piece{cloned(p.args), p.broken})
}

// unhold takes away what was held back first.
func (c *connection) unhold() piece {
	first := c.held[0]
	c.held[0] = piece{}
	c.held = c.held[1:]
	if len(c.held) == 0 {
		// Nothing of what has been taken is kept.
		c.held = nil
	}
	return first
}

// transaction holds the commands that wait for EXEC.
type transaction struct {
	open   bool
	spoilt bool
	queue  [][][]byte
}

// begin opens it.
func (t *transaction) begin() { *t = transaction{open: true} }

// full tells whether nothing more can be queued.
func (t *transaction) full() bool { return len(t.queue) >= api.MaxQueue }

// enqueue lets a command wait for EXEC.
func (t *transaction) enqueue(args [][]byte) { t.queue = append(t.queue, cloned(args)) }

// spoil keeps it from being carried out, if it is open.
func (t *transaction) spoil() { t.spoilt = t.open }

// end closes it, and tells what it was.
func (t *transaction) end() transaction {
	was := *t
	*t = transaction{}
	return was
}

// watches hold the places of which a connection wants to know whether they have changed.
type watches struct {
	places    map[api.Place]struct{}
	disturbed bool
}

// watch comes to watch places too, unless they would be too many; it tells whether it does.
func (w *watches) watch(places []api.Place) bool {
	all := map[api.Place]struct{}{}
	maps.Copy(all, w.places)
	for _, place := range places {
		all[place] = struct{}{}
	}
	if len(all) > api.MaxWatch {
		return false
	}
	w.places = all
	return true
}

// notice hears of places that have changed.
func (w *watches) notice(changed []api.Place) {
	for _, place := range changed {
		if _, watched := w.places[place]; watched {
			w.disturbed = true
		}
	}
}

// forget watches nothing any more, and tells whether it was disturbed.
func (w *watches) forget() bool {
	disturbed := w.disturbed
	*w = watches{}
	return disturbed
}

// cloned makes the same arguments anew.
func cloned(args [][]byte) [][]byte {
	own := make([][]byte, len(args))
	for i, a := range args {
		own[i] = bytes.Clone(a)
	}
	return own
}
