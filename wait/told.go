package wait

import (
	"cmp"
	"slices"

	"larder/api"
)

// Next tells who has waited longest for a place and a kind.
func (w *Wait) Next(place api.Place, kind int) (int, bool) {
	for _, conn := range w.lines[place] {
		if w.waiters[conn].kind == kind {
			return conn, true
		}
	}
	return 0, false
}

// Due tells whose time is over, in order; they wait on.
func (w *Wait) Due(now uint64) []int {
	return w.told(byTime, func(one waiter) bool { return one.until != 0 && one.until <= now })
}

// Until tells until when a connection waits.
func (w *Wait) Until(conn int) (uint64, bool) {
	one, waits := w.waiters[conn]
	return one.until, waits
}

// Places tells what a connection waits for, as it was given.
func (w *Wait) Places(conn int) []api.Place {
	return cloned(w.waiters[conn].places)
}

// Waiting tells who waits, who has waited longest first.
func (w *Wait) Waiting() []int {
	return w.told(byTurn, func(waiter) bool { return true })
}

// told tells the connections of the waiters that are wanted, in that order.
func (w *Wait) told(order func(a, b waiter) int, wanted func(one waiter) bool) []int {
	var found []waiter
	for _, one := range w.waiters {
		if wanted(one) {
			found = append(found, one)
		}
	}
	slices.SortFunc(found, order)
	conns := make([]int, len(found))
	for i, one := range found {
		conns[i] = one.conn
	}
	return conns
}

// byTurn sorts waiters as they stand in line.
func byTurn(a, b waiter) int {
	return cmp.Compare(a.turn, b.turn)
}

// byTime sorts waiters by the times until which they wait, those of one time as they stand in line.
func byTime(a, b waiter) int {
	return cmp.Or(cmp.Compare(a.until, b.until), byTurn(a, b))
}
