package rank_test

import (
	"testing"

	"larder/api"
)

// TestExamples goes through the chapter's table.
func TestExamples(t *testing.T) {
	h := made(t, 4000)
	a, b, c := member{"a", 2, 3}, member{"b", 2, 1}, member{"c", -5, 2}
	r := ranked(t, h, 7, b, a, c)
	wantSlice(t, r, 0, 9, c, a, b)
	wantPlace(t, r, "b", 2, true)
	wantPlace(t, r, "x", 0, false)
	wantBefore(t, r, 2, "b", 2)
	wantBefore(t, r, 2, "aa", 2)
	wantBefore(t, r, 2, "", 1)
	wantBefore(t, r, least, "", 0)
	wantBelow(t, r, 2, false, 1)
	wantBelow(t, r, 2, true, 3)
	wantBelow(t, r, most, true, 3)
	wantSlice(t, r, 1, 1<<62, a, b)
	wantSlice(t, r, 3, 1)
	wantSlice(t, r, -1, 2)
	wantSlice(t, r, 0, 0)
	before := stateOf(h)
	wantAdd(t, r, member{"a", 2, 8}, false, api.OK)
	wantState(t, "Add of what is there", h, before)
	wantAdd(t, r, member{"a", -9, 1}, false, api.OK)
	wantSlice(t, r, 0, 1, member{"a", -9, 1})
	wantAdd(t, r, member{"q", 1, 0}, false, api.ErrRankLevel)
	wantAdd(t, r, member{"q", 1, 9}, false, api.ErrRankLevel)
	wantRemove(t, r, "c", true, api.OK)
	wantRemove(t, r, "c", false, api.OK)
	wantSet(t, r, member{"a", -9, 1}, b)
}
