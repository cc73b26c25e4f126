package wait_test

import (
	"slices"
	"strconv"
	"testing"

	"larder/api"
	"larder/wait"
)

func TestP18_1_EveryConnection(t *testing.T) {
	w := wait.New()
	for conn := range api.MaxConns {
		wantBlock(t, w, conn, api.ValRank, []api.Place{at(conn%4, "a")}, uint64(conn), api.OK)
		wantBlock(t, w, conn, api.ValRank, keys("a"), 0, api.ErrWaitBusy)
	}
	wantWaiting(t, w, 0, 1, 2, 3, 4, 5, 6, 7)
}

func TestP18_1_NoConnection(t *testing.T) {
	w := wait.New()
	for _, conn := range noConns {
		wantBlock(t, w, conn, api.ValList, keys("a"), 0, api.ErrWaitConn)
		wantBlock(t, w, conn, api.ValList, keys("a"), 0, api.ErrWaitConn)
		wantBlock(t, w, conn, api.ValText, keys("a"), 0, api.ErrWaitConn)
		wantBlock(t, w, conn, api.ValList, nil, 0, api.ErrWaitConn)
		wantBlock(t, w, conn, api.ValList, keys("a"), api.MaxTime+1, api.ErrWaitConn)
		wantNotWaiting(t, w, conn)
	}
	wantNobody(t, w)
}

func TestP18_1_Busy(t *testing.T) {
	w := wait.New()
	block(t, w, 4, 9, "a")
	block(t, w, 5, 9, "a")
	wantBlock(t, w, 4, api.ValList, keys("a"), 9, api.ErrWaitBusy)
	wantBlock(t, w, 4, api.ValRank, keys("b"), 1, api.ErrWaitBusy)
	wantBlock(t, w, 4, api.ValText, keys("b"), 1, api.ErrWaitBusy)
	wantBlock(t, w, 4, api.ValList, nil, 1, api.ErrWaitBusy)
	wantBlock(t, w, 4, api.ValList, keys("b"), 1<<64-1, api.ErrWaitBusy)
	wantUntil(t, w, 4, 9, true)
	wantPlaces(t, w, 4, at(0, "a"))
	wantNext(t, w, at(0, "a"), api.ValList, 4)
	wantNoNext(t, w, at(0, "b"), api.ValList)
	wantNoNext(t, w, at(0, "b"), api.ValRank)
	wantWaiting(t, w, 4, 5)
	// Those whose time is over wait on.
	wantDue(t, w, 9, 4, 5)
	wantBlock(t, w, 4, api.ValList, keys("b"), 0, api.ErrWaitBusy)
}

func TestP18_1_Kinds(t *testing.T) {
	w := wait.New()
	for _, kind := range noKinds {
		wantBlock(t, w, 0, kind, keys("a"), 0, api.ErrWaitKind)
		wantBlock(t, w, 0, kind, nil, 0, api.ErrWaitKind)
		wantBlock(t, w, 0, kind, []api.Place{at(4, "a")}, api.MaxTime+1, api.ErrWaitKind)
		wantNoNext(t, w, at(0, "a"), kind)
	}
	wantNobody(t, w)
	wantBlock(t, w, 0, 2, keys("a"), 0, api.OK)
	wantBlock(t, w, 1, 5, keys("a"), 0, api.OK)
	for _, kind := range noKinds {
		wantNoNext(t, w, at(0, "a"), kind)
	}
}

func TestP18_1_NumbersOfPlaces(t *testing.T) {
	w := wait.New()
	var places []api.Place
	for i := range api.MaxWait {
		places = append(places, at(i%4, strconv.Itoa(i)))
	}
	wantBlock(t, w, 0, api.ValList, nil, 0, api.ErrWaitPlace)
	wantBlock(t, w, 0, api.ValList, []api.Place{}, 0, api.ErrWaitPlace)
	wantBlock(t, w, 0, api.ValList, slices.Concat(places, keys("one more")), 0, api.ErrWaitPlace)
	wantBlock(t, w, 0, api.ValList, slices.Concat(places, places[:1]), 0, api.ErrWaitPlace)
	wantBlock(t, w, 0, api.ValList, make([]api.Place, 1<<16), 0, api.ErrWaitPlace)
	wantBlock(t, w, 0, api.ValList, nil, api.MaxTime+1, api.ErrWaitPlace)
	wantNobody(t, w)
	wantBlock(t, w, 0, api.ValList, places, 0, api.OK)
	wantPlaces(t, w, 0, places...)
	for _, place := range places {
		wantNext(t, w, place, api.ValList, 0)
		wantNoNext(t, w, place, api.ValRank)
	}
	wantRelease(t, w, 0, true)
	for _, place := range places {
		wantNoNext(t, w, place, api.ValList)
	}
}

func TestP18_1_WrongPlaces(t *testing.T) {
	w := wait.New()
	for _, wrong := range noPlaces {
		for _, places := range [][]api.Place{{wrong}, {at(0, "a"), wrong}, {wrong, at(0, "a")}, {at(0, "a"), wrong, at(1, "a")}} {
			wantBlock(t, w, 6, api.ValList, places, 0, api.ErrWaitPlace)
			wantBlock(t, w, 6, api.ValRank, places, api.MaxTime+1, api.ErrWaitPlace)
		}
		wantNoNext(t, w, wrong, api.ValList)
	}
	wantNobody(t, w)
}

func TestP18_1_PlacesAtTheLimits(t *testing.T) {
	w := wait.New()
	places := []api.Place{at(0, ""), at(3, ""), at(0, long(api.MaxText)), at(3, long(api.MaxText)), at(3, long(api.MaxText-1))}
	wantBlock(t, w, 6, api.ValRank, places, 0, api.OK)
	wantPlaces(t, w, 6, places...)
	for _, place := range places {
		wantNext(t, w, place, api.ValRank, 6)
	}
	wantNoNext(t, w, at(1, ""), api.ValRank)
	wantNoNext(t, w, at(2, long(api.MaxText)), api.ValRank)
	wantNoNext(t, w, at(3, long(api.MaxText-2)), api.ValRank)
	for _, wrong := range noPlaces {
		wantNoNext(t, w, wrong, api.ValRank)
	}
}

func TestP18_1_Times(t *testing.T) {
	w := wait.New()
	for _, until := range noTimes {
		wantBlock(t, w, 0, api.ValList, keys("a"), until, api.ErrWaitUntil)
	}
	wantNobody(t, w)
	for conn, until := range []uint64{0, 1, api.MaxTime - 1, api.MaxTime} {
		block(t, w, conn, until, "a")
		wantUntil(t, w, conn, until, true)
	}
}

func TestP18_1_ErrorsTakeNoPlaceInLine(t *testing.T) {
	w := wait.New()
	wantBlock(t, w, 0, api.ValText, keys("a"), 0, api.ErrWaitKind)
	wantBlock(t, w, 0, api.ValList, []api.Place{at(0, "a"), at(4, "a")}, 0, api.ErrWaitPlace)
	wantBlock(t, w, 0, api.ValList, keys("a"), api.MaxTime+1, api.ErrWaitUntil)
	block(t, w, 1, 5, "a")
	wantBlock(t, w, 1, api.ValList, keys("a", "b"), 4, api.ErrWaitBusy)
	block(t, w, 0, 5, "a")
	wantNext(t, w, at(0, "a"), api.ValList, 1)
	wantWaiting(t, w, 1, 0)
	wantDue(t, w, 5, 1, 0)
	wantRelease(t, w, 1, true)
	wantNext(t, w, at(0, "a"), api.ValList, 0)
}

func TestP18_1_APlaceThatIsNamedTwice(t *testing.T) {
	w := wait.New()
	block(t, w, 3, 0, "a", "a", "b", "a", "b")
	block(t, w, 1, 0, "b", "b")
	wantNext(t, w, at(0, "a"), api.ValList, 3)
	wantNext(t, w, at(0, "b"), api.ValList, 3)
	wantRelease(t, w, 3, true)
	wantNoNext(t, w, at(0, "a"), api.ValList)
	wantNext(t, w, at(0, "b"), api.ValList, 1)
	wantRelease(t, w, 1, true)
	wantNobody(t, w)
	wantBlock(t, w, 3, api.ValList, make([]api.Place, api.MaxWait), 0, api.OK)
	wantPlaces(t, w, 3, make([]api.Place, api.MaxWait)...)
	wantRelease(t, w, 3, true)
	wantNobody(t, w)
}

func TestP18_1_KeysThatAreAlike(t *testing.T) {
	w := wait.New()
	alike := []string{"a", "A", "a\x00", "\x00a", "a ", "", "\xff", "*"}
	for conn, key := range alike {
		block(t, w, conn, 0, key)
	}
	for conn, key := range alike {
		wantNext(t, w, at(0, key), api.ValList, conn)
	}
	wantNoNext(t, w, at(0, "?"), api.ValList)
}

func TestP18_4_Release(t *testing.T) {
	w := wait.New()
	block(t, w, 0, 7, "a", "b")
	block(t, w, 1, 6, "a")
	block(t, w, 2, 5, "b", "a")
	wantRelease(t, w, 1, true)
	wantNotWaiting(t, w, 1)
	wantWaiting(t, w, 0, 2)
	wantDue(t, w, 9, 2, 0)
	wantRelease(t, w, 0, true)
	wantNext(t, w, at(0, "a"), api.ValList, 2)
	wantNext(t, w, at(0, "b"), api.ValList, 2)
	wantRelease(t, w, 2, true)
	wantRelease(t, w, 2, false)
	wantNobody(t, w)
}

func TestP18_4_OneThatBlocksAgainStandsAtTheEnd(t *testing.T) {
	w := wait.New()
	for conn := range api.MaxConns {
		block(t, w, conn, 3, "a")
	}
	for conn := range 100 {
		conn %= api.MaxConns
		wantNext(t, w, at(0, "a"), api.ValList, conn)
		wantRelease(t, w, conn, true)
		block(t, w, conn, 3, "a")
		want := []int{}
		for behind := range api.MaxConns {
			want = append(want, (conn+1+behind)%api.MaxConns)
		}
		wantWaiting(t, w, want...)
		wantDue(t, w, 3, want...)
	}
}

func TestP18_4_WhatItWaitedForIsGone(t *testing.T) {
	w := wait.New()
	wantBlock(t, w, 2, api.ValRank, keys("a", "b"), 8, api.OK)
	wantRelease(t, w, 2, true)
	wantBlock(t, w, 2, api.ValList, keys("b", "c"), 0, api.OK)
	wantNoNext(t, w, at(0, "a"), api.ValRank)
	wantNoNext(t, w, at(0, "a"), api.ValList)
	wantNoNext(t, w, at(0, "b"), api.ValRank)
	wantNext(t, w, at(0, "b"), api.ValList, 2)
	wantUntil(t, w, 2, 0, true)
	wantDue(t, w, 8)
	wantPlaces(t, w, 2, at(0, "b"), at(0, "c"))
}

func TestP18_4_NoConnection(t *testing.T) {
	w := wait.New()
	for conn := range api.MaxConns {
		block(t, w, conn, 0, "a")
	}
	for _, conn := range noConns {
		wantRelease(t, w, conn, false)
	}
	wantWaiting(t, w, 0, 1, 2, 3, 4, 5, 6, 7)
}
