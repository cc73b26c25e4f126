package rank_test

import (
	"math/bits"
	"strconv"
	"testing"
	"time"

	"larder/api"
)

const patience = 5 * time.Second

// TestCallsDoNotGoThroughTheWholeSet: with many members each call takes about as long as with few. (Through the whole set each time, they would take minutes.)
func TestCallsDoNotGoThroughTheWholeSet(t *testing.T) {
	h := made(t, api.MaxLimit)
	r := ranked(t, h, 1)
	start := time.Now()
	hurry := func(i int) {
		if i%100 == 0 && time.Since(start) > patience {
			t.Fatalf("%d rounds took %v", i, time.Since(start))
		}
	}
	const many = 8000
	level := func(i int) int { return 1 + min(7, bits.TrailingZeros(uint(i+1))) }
	for i := range many {
		wantAdd(t, r, member{strconv.Itoa(i), int64(i), level(i)}, true, api.OK)
		hurry(i)
	}
	start = time.Now()
	for i := range many {
		k := i * 7919 % many
		text := strconv.Itoa(k)
		wantPlace(t, r, text, k, true)
		wantBefore(t, r, int64(k), text, k)
		wantBelow(t, r, int64(k), true, k+1)
		wantSlice(t, r, k, 1, member{text, int64(k), 0})
		wantAdd(t, r, member{text, int64(-k - 1), level(k)}, false, api.OK)
		wantAdd(t, r, member{text, int64(k), level(k)}, false, api.OK)
		wantRemove(t, r, text, true, api.OK)
		wantAdd(t, r, member{text, int64(k), level(k)}, true, api.OK)
		hurry(i)
	}
	start = time.Now()
	if n := len(r.Slice(0, most)); n != many {
		t.Errorf("%d members", n)
	}
	for i := range many {
		wantRemove(t, r, strconv.Itoa(i), true, api.OK)
		hurry(i)
	}
}
