package arena_test

import (
	"testing"

	"larder/api"
	"larder/arena"
)

func take(t *testing.T, a, src *arena.Arena, at, want int) {
	t.Helper()
	if to, e := a.Take(src, at); to != want || e != api.OK {
		t.Errorf("Take(%d) = %d, %d, want %d, OK", at, to, e, want)
	}
}

func wantMoved(t *testing.T, a *arena.Arena, at, want int, is bool) {
	t.Helper()
	if to, moved, e := a.Moved(at); to != want || moved != is || e != api.OK {
		t.Errorf("Moved(%d) = %d, %v, %d, want %d, %v, OK", at, to, moved, e, want, is)
	}
}

func TestP2_4_TakeCopiesTheWholeObject(t *testing.T) {
	a, b := pair(t), block(t, 20)
	a.Set(1, 0, 5)
	a.SetBytes(1, 0, []byte("0123456789abcdef"))
	a.Set(5, 0, 1<<63|3)
	a.Set(5, 1, head(1, 0, 0))
	wantMoved(t, a, 1, 0, false)
	take(t, b, a, 5, 1)
	take(t, b, a, 1, 4)
	wantMoved(t, a, 5, 1, true)
	wantMoved(t, a, 1, 4, true)
	wantMoved(t, b, 1, 0, false)
	wantImage(t, b, 0, head(7, 2, 0), 1<<63|3, head(1, 0, 0), head(3, 1, 2), 5, 0x3736353433323130, 0x6665646362613938)
	wantImage(t, a, 0, 1<<63|4, 5, 0x3736353433323130, 0x6665646362613938, 1<<63|1, 1<<63|3, head(1, 0, 0))
	if k, f, s, e := b.Object(4); k != 3 || f != 1 || s != 2 || e != api.OK {
		t.Errorf("the copy's Object(4) = %d, %d, %d, %d", k, f, s, e)
	}
	wantBytes(t, b, 4, 0, 16, []byte("0123456789abcdef"))
}

func TestP2_4_AMovedObjectIsAskedForNothing(t *testing.T) {
	a, b := pair(t), block(t, 6)
	a.Set(5, 1, 9)
	take(t, b, a, 5, 1)
	refuseAt(t, a, 5, api.ErrArenaMoved)
	wantImage(t, a, 0, head(3, 1, 2), 0, 0, 0, 1<<63|1, 0, 9)
	// Its fields are no objects either.
	refuseAt(t, a, 6, api.ErrArenaAt)
	refuseMove(t, a, 7)
	if k, _, _, e := a.Object(1); k != 3 || e != api.OK {
		t.Errorf("the object beside it: %d, %d", k, e)
	}
}

func TestP2_4_OneCopyOnly(t *testing.T) {
	a, b := pair(t), block(t, 6)
	for range 5 {
		take(t, b, a, 5, 1)
		wantImage(t, b, 0, head(7, 2, 0), 0, 0)
	}
	b.Set(1, 0, 33)
	take(t, b, a, 5, 1)
	if v, _ := b.Get(1, 0); v != 33 {
		t.Errorf("a Take of a moved object laid it down again: %d", v)
	}
	// Whichever block asks: the place is that of the Take that moved it, also in a block that has no room.
	take(t, block(t, 1), a, 5, 1)
	take(t, a, a, 5, 1)
	c := block(t, 30)
	lay(t, c, 1, 0, 9, 1)
	take(t, c, a, 5, 1)
	if c.Used() != 11 {
		t.Errorf("Used() = %d behind a Take of a moved object", c.Used())
	}
}

func TestP2_4_TakeWithoutRoomChangesNothing(t *testing.T) {
	a, b := pair(t), block(t, 6)
	take(t, b, a, 5, 1)
	for range 2 {
		if to, e := b.Take(a, 1); to != 0 || e != api.ErrArenaFull {
			t.Errorf("Take without room = %d, %d", to, e)
		}
		if to, e := a.Take(a, 1); to != 0 || e != api.ErrArenaFull {
			t.Errorf("Take of itself without room = %d, %d", to, e)
		}
		wantMoved(t, a, 1, 0, false)
		wantImage(t, a, 0, head(3, 1, 2), 0, 0, 0, 1<<63|1, 0, 0)
		wantImage(t, b, 0, head(7, 2, 0), 0, 0)
	}
	take(t, block(t, 5), a, 1, 1)
}

func TestP2_4_TakeTellsTheRoomOfTheTaker(t *testing.T) {
	src := block(t, 10)
	lay(t, src, 1, 0, 3, 1)
	small, exact := block(t, 4), block(t, 5)
	if to, e := small.Take(src, 1); to != 0 || e != api.ErrArenaFull {
		t.Errorf("one word short: %d, %d", to, e)
	}
	take(t, exact, src, 1, 1)
	if exact.Used() != exact.Size() {
		t.Errorf("Used %d of %d", exact.Used(), exact.Size())
	}
}

func TestP2_4_ABlockTakesOfItself(t *testing.T) {
	c := block(t, 9)
	lay(t, c, 2, 1, 1, 1)
	c.Set(1, 0, 77)
	c.Set(1, 1, 88)
	take(t, c, c, 1, 4)
	take(t, c, c, 1, 4)
	wantImage(t, c, 0, 1<<63|4, 77, 88, head(2, 1, 1), 77, 88)
	if to, e := c.Take(c, 4); to != 0 || e != api.ErrArenaFull {
		t.Errorf("the copy again: %d, %d", to, e)
	}
}

func TestP2_4_ATakenObjectCanBeTakenOn(t *testing.T) {
	a, b, c := pair(t), block(t, 20), block(t, 20)
	lay(t, c, 1, 0, 0, 1)
	a.Set(5, 0, 4)
	take(t, b, a, 5, 1)
	take(t, c, b, 1, 2)
	wantMoved(t, a, 5, 1, true)
	wantMoved(t, b, 1, 2, true)
	take(t, c, a, 5, 1)
	if v, e := c.Get(2, 0); v != 4 || e != api.OK {
		t.Errorf("the copy's copy: %d, %d", v, e)
	}
}

func TestP2_4_ClearLeavesWhatOthersSay(t *testing.T) {
	a, b := pair(t), block(t, 6)
	take(t, b, a, 5, 1)
	b.Clear()
	wantMoved(t, a, 5, 1, true)
	refuseAt(t, b, 1, api.ErrArenaAt)
	take(t, b, a, 5, 1)
	wantImage(t, b, 0)
	take(t, b, a, 1, 1)
	wantMoved(t, a, 1, 1, true)
	refuseAt(t, b, 4, api.ErrArenaAt)
	// Cleared itself, it forgets that anything was moved.
	a.Clear()
	lay(t, a, 7, 2, 0, 1)
	wantMoved(t, a, 1, 0, false)
	refuseMove(t, a, 5)
}

func TestP2_4_TakeLaysOverWhatStoodThere(t *testing.T) {
	a, b := block(t, 20), block(t, 20)
	for _, at := range []int{1, 3, 5, 7} {
		lay(t, b, 1, 0, 1, at)
		b.Set(at, 0, ^uint64(0))
	}
	b.Clear()
	lay(t, a, 2, 1, 4, 1)
	take(t, b, a, 1, 1)
	wantImage(t, b, 0, head(2, 1, 4), 0, 0, 0, 0, 0)
	refuseAt(t, b, 3, api.ErrArenaAt)
	refuseAt(t, b, 5, api.ErrArenaAt)
	refuseAt(t, b, 7, api.ErrArenaAt)
}
