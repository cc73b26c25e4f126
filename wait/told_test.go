package wait_test

import (
	"testing"

	"larder/api"
	"larder/wait"
)

func TestP18_2_FirstInLine(t *testing.T) {
	w := wait.New()
	order := []int{5, 0, 7, 2, 6}
	for _, conn := range order {
		block(t, w, conn, uint64(10-conn), "a", "b")
	}
	for _, conn := range order {
		wantNext(t, w, at(0, "a"), api.ValList, conn)
		wantNext(t, w, at(0, "b"), api.ValList, conn)
		wantRelease(t, w, conn, true)
	}
	wantNobody(t, w)
}

func TestP18_2_KindsStandApart(t *testing.T) {
	w := wait.New()
	for conn := range api.MaxConns {
		kind := api.ValList
		if conn%2 == 1 {
			kind = api.ValRank
		}
		wantBlock(t, w, conn, kind, keys("a"), 0, api.OK)
	}
	for conn := 0; conn < api.MaxConns; conn += 2 {
		wantNext(t, w, at(0, "a"), api.ValList, conn)
		wantNext(t, w, at(0, "a"), api.ValRank, 1)
		wantRelease(t, w, conn, true)
	}
	wantNoNext(t, w, at(0, "a"), api.ValList)
	wantNext(t, w, at(0, "a"), api.ValRank, 1)
	wantWaiting(t, w, 1, 3, 5, 7)
}

func TestP18_2_DatabasesStandApart(t *testing.T) {
	w := wait.New()
	for db := range api.MaxDB {
		wantBlock(t, w, 7-db, api.ValList, []api.Place{at(db, "a")}, 0, api.OK)
	}
	for db := range api.MaxDB {
		wantNext(t, w, at(db, "a"), api.ValList, 7-db)
	}
}

func TestP18_2_ThePlaceInTheListDoesNotCount(t *testing.T) {
	w := wait.New()
	block(t, w, 1, 0, "a", "b", "c")
	block(t, w, 0, 0, "c")
	block(t, w, 2, 0, "d", "c")
	wantNext(t, w, at(0, "c"), api.ValList, 1)
	wantNext(t, w, at(0, "d"), api.ValList, 2)
	wantRelease(t, w, 1, true)
	wantNext(t, w, at(0, "c"), api.ValList, 0)
}

func TestP18_2_ChangesNothing(t *testing.T) {
	w := wait.New()
	block(t, w, 1, 4, "a", "b")
	block(t, w, 0, 5, "a")
	for range 3 {
		wantNext(t, w, at(0, "a"), api.ValList, 1)
		wantNoNext(t, w, at(0, "c"), api.ValList)
		wantNoNext(t, w, at(0, "a"), api.ValRank)
	}
	wantWaiting(t, w, 1, 0)
	wantPlaces(t, w, 1, keys("a", "b")...)
	wantDue(t, w, 5, 1, 0)
}

func TestP18_3_PlacesAsHandedIn(t *testing.T) {
	w := wait.New()
	places := []api.Place{at(3, "z"), at(0, "b"), at(0, ""), at(3, "z"), at(1, "b"), at(0, "b"), at(0, "a"), at(0, "")}
	wantBlock(t, w, 2, api.ValRank, places, 6, api.OK)
	block(t, w, 4, 0, "other")
	wantPlaces(t, w, 2, places...)
	wantUntil(t, w, 2, 6, true)
	wantPlaces(t, w, 4, at(0, "other"))
	wantUntil(t, w, 4, 0, true)
	wantRelease(t, w, 4, true)
	wantPlaces(t, w, 2, places...)
}

func TestP18_3_WhoDoesNotWait(t *testing.T) {
	w := wait.New()
	block(t, w, 0, 6, "a")
	for _, conn := range append([]int{1, 7}, noConns...) {
		wantUntil(t, w, conn, 0, false)
		wantPlaces(t, w, conn)
	}
	wantRelease(t, w, 0, true)
	wantUntil(t, w, 0, 0, false)
	wantPlaces(t, w, 0)
}

func TestP18_5_ByTime(t *testing.T) {
	w := wait.New()
	for conn, until := range []uint64{30, 0, 10, api.MaxTime, 20, 10, 1, 0} {
		block(t, w, conn, until, "a")
	}
	wantDue(t, w, 0)
	wantDue(t, w, 1, 6)
	wantDue(t, w, 9, 6)
	wantDue(t, w, 10, 6, 2, 5)
	wantDue(t, w, 19, 6, 2, 5)
	wantDue(t, w, 20, 6, 2, 5, 4)
	wantDue(t, w, 30, 6, 2, 5, 4, 0)
	wantDue(t, w, api.MaxTime-1, 6, 2, 5, 4, 0)
	wantDue(t, w, api.MaxTime, 6, 2, 5, 4, 0, 3)
	wantDue(t, w, api.MaxTime+1, 6, 2, 5, 4, 0, 3)
	wantDue(t, w, 1<<64-1, 6, 2, 5, 4, 0, 3)
}

func TestP18_5_OfOneTimeInLine(t *testing.T) {
	w := wait.New()
	order := []int{6, 1, 7, 0, 3}
	for _, conn := range order {
		block(t, w, conn, 12, "a")
	}
	// A map is gone through in one order now and in another then.
	for range 50 {
		wantDue(t, w, 12, order...)
		wantWaiting(t, w, order...)
	}
	wantRelease(t, w, 7, true)
	block(t, w, 7, 12, "b")
	block(t, w, 2, 11, "b")
	wantDue(t, w, 12, 2, 6, 1, 0, 3, 7)
}

func TestP18_5_ForEverIsNeverDue(t *testing.T) {
	w := wait.New()
	for conn := range api.MaxConns {
		block(t, w, conn, 0, "a")
	}
	for _, now := range []uint64{0, 1, api.MaxTime, 1<<64 - 1} {
		wantDue(t, w, now)
	}
}

func TestP18_5_ChangesNothing(t *testing.T) {
	w := wait.New()
	block(t, w, 3, 5, "a")
	block(t, w, 2, 4, "a")
	wantDue(t, w, 5, 2, 3)
	wantDue(t, w, 5, 2, 3)
	// The clock is not kept: a lesser reading may follow.
	wantDue(t, w, 4, 2)
	wantDue(t, w, 3)
	wantWaiting(t, w, 3, 2)
	wantNext(t, w, at(0, "a"), api.ValList, 3)
	wantUntil(t, w, 3, 5, true)
	wantRelease(t, w, 2, true)
	wantDue(t, w, 5, 3)
}

func TestP18_6_InLine(t *testing.T) {
	w := wait.New()
	var want []int
	for i, conn := range []int{4, 7, 0, 5, 2, 6, 1, 3} {
		kind := api.ValList
		if i%3 == 0 {
			kind = api.ValRank
		}
		wantBlock(t, w, conn, kind, []api.Place{at(conn%4, "a")}, uint64(conn), api.OK)
		want = append(want, conn)
		wantWaiting(t, w, want...)
	}
	for len(want) > 0 {
		wantRelease(t, w, want[0], true)
		want = want[1:]
		wantWaiting(t, w, want...)
	}
}

func TestP18_7_TwoWaitsHaveNothingInCommon(t *testing.T) {
	w := wait.New()
	block(t, w, 1, 5, "a")
	q := wait.New()
	wantNobody(t, q)
	wantBlock(t, q, 1, api.ValRank, keys("b"), 7, api.OK)
	block(t, q, 0, 3, "a")
	wantNext(t, q, at(0, "a"), api.ValList, 0)
	wantNext(t, w, at(0, "a"), api.ValList, 1)
	wantNoNext(t, w, at(0, "b"), api.ValRank)
	wantRelease(t, q, 1, true)
	wantRelease(t, q, 0, true)
	wantWaiting(t, w, 1)
	wantUntil(t, w, 1, 5, true)
	wantPlaces(t, w, 1, at(0, "a"))
}
