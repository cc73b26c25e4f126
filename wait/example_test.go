package wait_test

import (
	"testing"

	"larder/api"
	"larder/wait"
)

// exampleWait is the wait behind the chapter's second example.
func exampleWait(t *testing.T) *wait.Wait {
	t.Helper()
	w := wait.New()
	wantBlock(t, w, 3, 2, keys("a", "b", "a"), 50, api.OK)
	wantBlock(t, w, 3, 2, keys("c"), 0, api.ErrWaitBusy)
	wantBlock(t, w, 1, 5, keys("a"), 0, api.OK)
	wantBlock(t, w, 2, 2, keys("a"), 40, api.OK)
	return w
}

func TestP18_7_ExampleOfNobody(t *testing.T) {
	w := wait.New()
	wantNoNext(t, w, at(0, "a"), 2)
	wantWaiting(t, w)
	wantDue(t, w, 1<<52)
	wantUntil(t, w, 3, 0, false)
	wantRelease(t, w, 3, false)
	wantPlaces(t, w, 3)
}

func TestP18_2_Example(t *testing.T) {
	w := exampleWait(t)
	wantNext(t, w, at(0, "a"), 2, 3)
	wantNext(t, w, at(0, "a"), 5, 1)
	wantNoNext(t, w, at(1, "a"), 2)
}

func TestP18_3_Example(t *testing.T) {
	w := exampleWait(t)
	wantPlaces(t, w, 3, at(0, "a"), at(0, "b"), at(0, "a"))
	wantUntil(t, w, 1, 0, true)
}

func TestP18_5_Example(t *testing.T) {
	w := exampleWait(t)
	wantDue(t, w, 45, 2)
	wantDue(t, w, 50, 2, 3)
	wantDue(t, w, 39)
}

func TestP18_6_Example(t *testing.T) {
	wantWaiting(t, exampleWait(t), 3, 1, 2)
}

func TestP18_4_Example(t *testing.T) {
	w := exampleWait(t)
	wantRelease(t, w, 3, true)
	wantRelease(t, w, 3, false)
	wantNext(t, w, at(0, "a"), 2, 2)
	wantNoNext(t, w, at(0, "b"), 2)
	wantBlock(t, w, 3, 2, keys("a"), 0, api.OK)
	wantNext(t, w, at(0, "a"), 2, 2)
	wantWaiting(t, w, 1, 2, 3)
}

func TestP18_1_Example(t *testing.T) {
	w := wait.New()
	for _, conn := range []int{8, -1} {
		wantBlock(t, w, conn, 2, keys("a"), 0, api.ErrWaitConn)
		wantBlock(t, w, conn, 1, keys("a"), 0, api.ErrWaitConn)
		wantBlock(t, w, conn, 2, nil, 0, api.ErrWaitConn)
	}
	wantBlock(t, w, 0, 1, keys("a"), 0, api.ErrWaitKind)
	wantBlock(t, w, 0, 2, nil, 0, api.ErrWaitPlace)
	wantBlock(t, w, 0, 2, make([]api.Place, 65), 0, api.ErrWaitPlace)
	wantBlock(t, w, 0, 2, []api.Place{{DB: 4, Key: "a"}}, 0, api.ErrWaitPlace)
	wantBlock(t, w, 0, 2, keys("a"), 1<<52+1, api.ErrWaitUntil)
	wantNobody(t, w)
}
