package rank_test

import (
	"testing"

	"larder/api"
)

// some are members of many scores, among them the least and the greatest, and some of one score.
func some() []member {
	return []member{
		{"low", least, 2}, {"a", -5, 1}, {"b", -5, 8}, {"ba", -5, 3}, {"", 0, 1}, {"\xff", 0, 4},
		{"m", 7, 1}, {text(700), 8, 5}, {"c", 8, 1}, {"x", 8, 2}, {"high", most, 7}, {"higher", most, 1},
	}
}

func TestP7_6_Len(t *testing.T) {
	h := made(t, 1<<15)
	r := ranked(t, h, 4)
	for i := range 60 {
		wantAdd(t, r, member{text(i), int64(-i), 1 + i%8}, true, api.OK)
		wantAdd(t, r, member{text(i / 2), int64(-i / 2), 1}, false, api.OK)
		wantAdd(t, r, member{text(i), int64(i), 1 + i%8}, false, api.OK)
		wantAdd(t, r, member{text(i), int64(-i), 1 + i%8}, false, api.OK)
		r.Add([]byte("x"), 1, 9)
		r.Remove([]byte("x"))
		if r.Len() != i+1 {
			t.Fatalf("Len = %d behind %d Adds", r.Len(), i+1)
		}
	}
	for i := range 60 {
		wantRemove(t, r, text(i), true, api.OK)
		if r.Len() != 59-i {
			t.Fatalf("Len = %d behind %d Removes", r.Len(), i+1)
		}
	}
}

func TestP7_6_ScoreAndPlace(t *testing.T) {
	h := made(t, 8000)
	r := ranked(t, h, 4, some()...)
	for i, m := range some() {
		wantScore(t, r, m.text, m.score, true)
		wantPlace(t, r, m.text, i, true)
	}
	before := stateOf(h)
	for _, none := range []string{"lo", "A", "\x00", "bb", "hig", text(699), text(701), text(4096), text(4097), text(9000)} {
		wantScore(t, r, none, 0, false)
		wantPlace(t, r, none, 0, false)
	}
	wantState(t, "Score and Place", h, before)
	empty := ranked(t, h, 4)
	wantScore(t, empty, "", 0, false)
	wantPlace(t, empty, "", 0, false)
}

// TestP7_7_Before holds it against counting, for members that are there with that score, with another one, and not at all.
func TestP7_7_Before(t *testing.T) {
	h := made(t, 8000)
	list := some()
	r := ranked(t, h, 4, list...)
	before := stateOf(h)
	for _, score := range []int64{least, least + 1, -6, -5, -4, -1, 0, 1, 7, 8, 9, most - 1, most} {
		for _, text := range []string{"", "\x00", "a", "b", "ba", "c", "high", "higher", "highest", "low", "m", "x", "y", "\xff", "\xff\xff", text(700), text(699), text(701), text(4097), text(9000)} {
			n := 0
			for _, m := range list {
				if order(m, member{text, score, 0}) < 0 {
					n++
				}
			}
			wantBefore(t, r, score, text, n)
		}
	}
	if n := r.Before(0, nil); n != 4 {
		t.Errorf("Before(0, nil) = %d", n)
	}
	wantState(t, "Before", h, before)
}

func TestP7_7_Below(t *testing.T) {
	h := made(t, 8000)
	list := some()
	r := ranked(t, h, 4, list...)
	before := stateOf(h)
	for _, score := range []int64{least, least + 1, -6, -5, -4, -1, 0, 1, 7, 8, 9, most - 1, most} {
		lesser, also := 0, 0
		for _, m := range list {
			if m.score < score {
				lesser++
			}
			if m.score <= score {
				also++
			}
		}
		wantBelow(t, r, score, false, lesser)
		wantBelow(t, r, score, true, also)
	}
	wantState(t, "Below", h, before)
	empty := ranked(t, h, 4)
	for _, score := range []int64{least, 0, most} {
		wantBelow(t, empty, score, false, 0)
		wantBelow(t, empty, score, true, 0)
		wantBefore(t, empty, score, "a", 0)
	}
}

func TestP7_8_Slice(t *testing.T) {
	h := made(t, 8000)
	list := some()
	r := ranked(t, h, 4, list...)
	before := stateOf(h)
	for from := range list {
		for n := range len(list) + 3 {
			wantSlice(t, r, from, n, list[from:min(from+n, len(list))]...)
		}
		for _, n := range []int{1 << 31, 1 << 40, 1 << 62, most - 1, most} {
			wantSlice(t, r, from, n, list[from:]...)
		}
	}
	wantState(t, "Slice", h, before)
}

func TestP7_8_NoSuchPlaces(t *testing.T) {
	h := made(t, 8000)
	list := some()
	r := ranked(t, h, 4, list...)
	empty := ranked(t, h, 4)
	for _, from := range []int{least, -1 << 40, -2, -1, len(list), len(list) + 1, 1 << 40, most} {
		for _, n := range []int{least, -1, 0, 1, 5, 1 << 62, most} {
			wantSlice(t, r, from, n)
			wantSlice(t, empty, from, n)
		}
	}
	for _, n := range []int{least, -1 << 40, -1, 0} {
		for _, from := range []int{0, 1, len(list) - 1} {
			wantSlice(t, r, from, n)
		}
	}
	wantSlice(t, empty, 0, 1)
	wantSlice(t, empty, 0, most)
}
