package wait

import (
	"strconv"
	"testing"

	"larder/api"
)

// A line that empties is deleted: what nobody waits for any more is not kept.
func TestWays_EmptyLinesAreDeleted(t *testing.T) {
	w := New()
	for round := range 100 {
		for conn := range api.MaxConns {
			key := strconv.Itoa(round*api.MaxConns + conn)
			w.Block(conn, api.ValList, []api.Place{{Key: key}, {Key: "shared"}, {Key: key}}, 0)
		}
		if len(w.lines) != api.MaxConns+1 || len(w.waiters) != api.MaxConns {
			t.Fatalf("%d lines, %d waiters", len(w.lines), len(w.waiters))
		}
		for conn := range api.MaxConns {
			w.Release(conn)
			if left := api.MaxConns - 1 - conn; left > 0 && len(w.lines) != left+1 {
				t.Fatalf("%d lines of %d waiters", len(w.lines), left)
			}
		}
		if len(w.lines) != 0 || len(w.waiters) != 0 {
			t.Fatalf("%d lines, %d waiters behind the last", len(w.lines), len(w.waiters))
		}
	}
}

// A place named twice stands in one line once.
func TestWays_OneLineOnce(t *testing.T) {
	w := New()
	a := api.Place{Key: "a"}
	w.Block(3, api.ValList, []api.Place{a, {DB: 1, Key: "a"}, a, a}, 0)
	w.Block(1, api.ValRank, []api.Place{a, a}, 0)
	if line := w.lines[a]; len(line) != 2 || line[0] != 3 || line[1] != 1 {
		t.Errorf("%v", line)
	}
}
