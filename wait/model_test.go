package wait_test

import (
	"cmp"
	"math/rand"
	"slices"
	"testing"

	"larder/api"
	"larder/wait"
)

// modelWaiter is one that waits, as it was handed in.
type modelWaiter struct {
	conn, kind int
	places     []api.Place
	until      uint64
}

// model is a plain second Wait: a list of those that wait, in line.
type model struct {
	line []modelWaiter
}

func (m *model) find(conn int) int {
	return slices.IndexFunc(m.line, func(one modelWaiter) bool { return one.conn == conn })
}

func (m *model) block(conn, kind int, places []api.Place, until uint64) api.Errno {
	if conn < 0 || conn > 7 {
		return 180
	}
	if m.find(conn) >= 0 {
		return 181
	}
	if kind != 2 && kind != 5 {
		return 184
	}
	if len(places) < 1 || len(places) > 64 {
		return 182
	}
	for _, place := range places {
		if place.DB < 0 || place.DB > 3 || len(place.Key) > 4096 {
			return 182
		}
	}
	if until > 1<<52 {
		return 183
	}
	m.line = append(m.line, modelWaiter{conn, kind, places, until})
	return 0
}

func (m *model) release(conn int) bool {
	at := m.find(conn)
	if at < 0 {
		return false
	}
	m.line = slices.Delete(m.line, at, at+1)
	return true
}

func (m *model) next(place api.Place, kind int) (int, bool) {
	for _, one := range m.line {
		if one.kind == kind && slices.Contains(one.places, place) {
			return one.conn, true
		}
	}
	return 0, false
}

func (m *model) waiting() []int {
	var conns []int
	for _, one := range m.line {
		conns = append(conns, one.conn)
	}
	return conns
}

func (m *model) due(now uint64) []int {
	var late []modelWaiter
	for _, one := range m.line {
		if one.until > 0 && one.until <= now {
			late = append(late, one)
		}
	}
	slices.SortStableFunc(late, func(a, b modelWaiter) int { return cmp.Compare(a.until, b.until) })
	var conns []int
	for _, one := range late {
		conns = append(conns, one.conn)
	}
	return conns
}

// wantAsModel asks all that can be asked of a Wait, and of some places and times.
func wantAsModel(t *testing.T, w *wait.Wait, m *model) {
	t.Helper()
	wantWaiting(t, w, m.waiting()...)
	for now := range uint64(6) {
		wantDue(t, w, now, m.due(now)...)
	}
	wantDue(t, w, 1<<64-1, m.due(1<<64-1)...)
	for conn := -1; conn <= 8; conn++ {
		if i := m.find(conn); i >= 0 {
			wantUntil(t, w, conn, m.line[i].until, true)
			wantPlaces(t, w, conn, m.line[i].places...)
		} else {
			wantUntil(t, w, conn, 0, false)
			wantPlaces(t, w, conn)
		}
	}
	for _, key := range []string{"", "a", "b", "ab"} {
		for db := -1; db <= 4; db++ {
			for kind := range 7 {
				place := at(db, key)
				if conn, ok := m.next(place, kind); ok {
					wantNext(t, w, place, kind, conn)
				} else {
					wantNoNext(t, w, place, kind)
				}
			}
		}
	}
}

// pick draws one of some.
func pick[T any](r *rand.Rand, some ...T) T {
	return some[r.Intn(len(some))]
}

// seldom tells whether a drawn thing is a wrong one.
func seldom(r *rand.Rand) bool {
	return r.Intn(25) == 0
}

// drawPlaces draws a short list of places out of few, seldom one that is refused or as long as can be.
func drawPlaces(r *rand.Rand) []api.Place {
	n := 1 + r.Intn(5)
	if seldom(r) {
		n = pick(r, 0, 64, 65)
	}
	var places []api.Place
	for range n {
		places = append(places, at(r.Intn(4), pick(r, "", "a", "b", "ab")))
	}
	if n > 0 && seldom(r) {
		places[r.Intn(n)] = pick(r, noPlaces...)
	}
	return places
}

// drawConn draws a connection, seldom a number that is none.
func drawConn(r *rand.Rand) int {
	if seldom(r) {
		return pick(r, noConns...)
	}
	return r.Intn(api.MaxConns)
}

// playStep does one drawn thing to a Wait and to its model.
func playStep(t *testing.T, r *rand.Rand, w *wait.Wait, m *model) {
	t.Helper()
	conn := drawConn(r)
	if r.Intn(3) == 0 {
		wantRelease(t, w, conn, m.release(conn))
		return
	}
	kind, places, until := pick(r, api.ValList, api.ValRank), drawPlaces(r), uint64(r.Intn(6))
	if seldom(r) {
		kind = pick(r, noKinds...)
	}
	if seldom(r) {
		until = pick(r, append(noTimes, api.MaxTime)...)
	}
	wantBlock(t, w, conn, kind, places, until, m.block(conn, kind, places, until))
}

func TestP18_7_DrawnScripts(t *testing.T) {
	for seed := range int64(100) {
		r := rand.New(rand.NewSource(seed))
		w, m := wait.New(), &model{}
		other, of := wait.New(), &model{}
		for range 200 {
			playStep(t, r, w, m)
			// What is done to another Wait is not seen.
			playStep(t, r, other, of)
			wantAsModel(t, w, m)
			if t.Failed() {
				t.Fatalf("seed %d", seed)
			}
		}
		wantAsModel(t, other, of)
	}
}
