package wait_test

import (
	"slices"
	"strings"
	"testing"

	"larder/api"
	"larder/wait"
)

// noConns are numbers that are none of the connections.
var noConns = []int{-1, api.MaxConns, api.MaxConns + 1, 99, 256, 1 << 32, 1<<63 - 1, -1 << 63}

// noKinds are numbers of which nobody waits for a value of that kind.
var noKinds = []int{api.ValNone, api.ValText, api.ValHash, api.ValSet, 6, -2, -5, 258, 261, 1<<32 + 2, 1<<63 - 1, -1 << 63}

// noPlaces are places at which nobody can wait.
var noPlaces = []api.Place{at(-1, "a"), at(api.MaxDB, "a"), at(1<<32, "a"), at(1<<63-1, ""), at(-1<<63, ""), at(0, long(api.MaxText+1)), at(3, long(1<<20))}

// noTimes are times until which nobody can wait.
var noTimes = []uint64{api.MaxTime + 1, api.MaxTime + 2, 1 << 60, 1 << 63, 1<<64 - 1}

func at(db int, key string) api.Place {
	return api.Place{DB: db, Key: key}
}

// keys are places of database 0.
func keys(keys ...string) []api.Place {
	var places []api.Place
	for _, key := range keys {
		places = append(places, at(0, key))
	}
	return places
}

// long is a text of that many bytes.
func long(bytes int) string {
	return strings.Repeat("x", bytes)
}

func wantBlock(t *testing.T, w *wait.Wait, conn, kind int, places []api.Place, until uint64, e api.Errno) {
	t.Helper()
	if got := w.Block(conn, kind, places, until); got != e {
		t.Errorf("Block(%d, %d, %.100v, %d) = %d, want %d", conn, kind, places, until, int(got), int(e))
	}
}

// block lets a connection wait for lists at keys of database 0.
func block(t *testing.T, w *wait.Wait, conn int, until uint64, names ...string) {
	t.Helper()
	wantBlock(t, w, conn, api.ValList, keys(names...), until, api.OK)
}

func wantNext(t *testing.T, w *wait.Wait, place api.Place, kind, conn int) {
	t.Helper()
	if got, ok := w.Next(place, kind); got != conn || !ok {
		t.Errorf("Next(%.100v, %d) = %d, %v, want %d, true", place, kind, got, ok, conn)
	}
}

func wantNoNext(t *testing.T, w *wait.Wait, place api.Place, kind int) {
	t.Helper()
	if got, ok := w.Next(place, kind); got != 0 || ok {
		t.Errorf("Next(%.100v, %d) = %d, %v, want 0, false", place, kind, got, ok)
	}
}

func wantRelease(t *testing.T, w *wait.Wait, conn int, want bool) {
	t.Helper()
	if got := w.Release(conn); got != want {
		t.Errorf("Release(%d) = %v, want %v", conn, got, want)
	}
}

func wantDue(t *testing.T, w *wait.Wait, now uint64, want ...int) {
	t.Helper()
	if got := w.Due(now); !slices.Equal(got, want) {
		t.Errorf("Due(%d) = %v, want %v", now, got, want)
	}
}

func wantUntil(t *testing.T, w *wait.Wait, conn int, until uint64, waits bool) {
	t.Helper()
	if got, ok := w.Until(conn); got != until || ok != waits {
		t.Errorf("Until(%d) = %d, %v, want %d, %v", conn, got, ok, until, waits)
	}
}

func wantPlaces(t *testing.T, w *wait.Wait, conn int, want ...api.Place) {
	t.Helper()
	if got := w.Places(conn); !slices.Equal(got, want) {
		t.Errorf("Places(%d) = %.200v, want %.200v", conn, got, want)
	}
}

func wantWaiting(t *testing.T, w *wait.Wait, want ...int) {
	t.Helper()
	if got := w.Waiting(); !slices.Equal(got, want) {
		t.Errorf("Waiting() = %v, want %v", got, want)
	}
}

// wantNotWaiting asks that a connection does not wait.
func wantNotWaiting(t *testing.T, w *wait.Wait, conn int) {
	t.Helper()
	wantUntil(t, w, conn, 0, false)
	wantPlaces(t, w, conn)
	wantRelease(t, w, conn, false)
}

// wantNobody asks that nobody waits anywhere.
func wantNobody(t *testing.T, w *wait.Wait) {
	t.Helper()
	wantWaiting(t, w)
	for _, now := range []uint64{0, 1, 50, api.MaxTime, 1<<64 - 1} {
		wantDue(t, w, now)
	}
	for conn := range api.MaxConns {
		wantNotWaiting(t, w, conn)
	}
	for kind := range 7 {
		wantNoNext(t, w, at(0, ""), kind)
		wantNoNext(t, w, at(0, "a"), kind)
		wantNoNext(t, w, at(3, "a"), kind)
	}
}
