package arena_test

import (
	"slices"
	"testing"

	"larder/api"
	"larder/arena"
	"larder/word"
)

const least, most = -1 << 63, 1<<63 - 1

func block(t *testing.T, size int) *arena.Arena {
	t.Helper()
	a, e := arena.New(size)
	if e != api.OK || a == nil {
		t.Fatalf("New(%d) = %v, %d", size, a, e)
	}
	return a
}

func head(kind, refs, raws int) uint64 {
	w, _ := word.Head(kind, refs, raws)
	return w
}

// lay allocates an object and holds the place against the one that is wanted.
func lay(t *testing.T, a *arena.Arena, kind, refs, raws, want int) {
	t.Helper()
	if at, e := a.Alloc(kind, refs, raws); at != want || e != api.OK {
		t.Fatalf("Alloc(%d, %d, %d) = %d, %d, want %d, OK", kind, refs, raws, at, e, want)
	}
}

func refuseAlloc(t *testing.T, a *arena.Arena, kind, refs, raws int, want api.Errno) {
	t.Helper()
	before, used := a.Image(), a.Used()
	if at, e := a.Alloc(kind, refs, raws); at != 0 || e != want {
		t.Errorf("Alloc(%d, %d, %d) = %d, %d, want 0, %d", kind, refs, raws, at, e, want)
	}
	if a.Used() != used || !slices.Equal(a.Image(), before) {
		t.Errorf("Alloc(%d, %d, %d) was refused and changed the block", kind, refs, raws)
	}
}

func wantImage(t *testing.T, a *arena.Arena, want ...uint64) {
	t.Helper()
	if got := a.Image(); !slices.Equal(got, want) {
		t.Errorf("Image() = %#x, want %#x", got, want)
	}
	if a.Used() != len(want) {
		t.Errorf("Used() = %d, want %d", a.Used(), len(want))
	}
}

// pair makes the block of the chapter's second example.
func pair(t *testing.T) *arena.Arena {
	t.Helper()
	a := block(t, 8)
	lay(t, a, 3, 1, 2, 1)
	lay(t, a, 7, 2, 0, 5)
	return a
}

func TestP2_1_NewTakesSizesUpToTheLimit(t *testing.T) {
	for _, size := range []int{1, 2, 64, api.MaxLimit - 1, api.MaxLimit} {
		a := block(t, size)
		if a.Size() != size || a.Used() != 1 || !slices.Equal(a.Image(), []uint64{0}) {
			t.Errorf("New(%d): Size %d, Used %d, Image %v", size, a.Size(), a.Used(), a.Image())
		}
	}
	for _, size := range []int{0, -1, api.MaxLimit + 1, 1 << 32, least, most} {
		if a, e := arena.New(size); a != nil || e != api.ErrArenaSize {
			t.Errorf("New(%d) = %v, %d, want nil, ErrArenaSize", size, a, e)
		}
	}
}

func TestP2_1_AllocTakesWhatFits(t *testing.T) {
	a := block(t, 8)
	lay(t, a, 3, 1, 2, 1)
	if a.Used() != 5 || a.Size() != 8 {
		t.Errorf("Used %d, Size %d, want 5 and 8", a.Used(), a.Size())
	}
	refuseAlloc(t, a, 3, 1, 2, api.ErrArenaFull)
	lay(t, a, 7, 2, 0, 5)
	refuseAlloc(t, a, 7, 0, 0, api.ErrArenaFull)
	wantImage(t, a, 0, head(3, 1, 2), 0, 0, 0, head(7, 2, 0), 0, 0)
}

func TestP2_1_AllocAtTheLimits(t *testing.T) {
	refuseAlloc(t, block(t, 1), 1, 0, 0, api.ErrArenaFull)
	lay(t, block(t, 2), 255, 0, 0, 1)
	a := block(t, api.MaxLimit)
	refuseAlloc(t, a, 1, 0, api.MaxField, api.ErrArenaFull)
	refuseAlloc(t, a, 1, api.MaxField, api.MaxField, api.ErrArenaFull)
	refuseAlloc(t, a, 1, 0, api.MaxField-1, api.ErrArenaFull)
	lay(t, a, 1, 0, api.MaxField-2, 1)
	if a.Used() != api.MaxLimit {
		t.Errorf("Used %d in a full block", a.Used())
	}
}

func TestP2_1_AllocAsksTheShapeFirst(t *testing.T) {
	a := block(t, 1)
	for _, kind := range []int{0, -1, 256, least, most} {
		refuseAlloc(t, a, kind, 0, 0, api.ErrArenaShape)
	}
	for _, n := range []int{-1, api.MaxField + 1, least, most} {
		refuseAlloc(t, a, 1, n, 0, api.ErrArenaShape)
		refuseAlloc(t, a, 1, 0, n, api.ErrArenaShape)
		refuseAlloc(t, a, 1, n, n, api.ErrArenaShape)
	}
}

func TestP2_1_ObjectTellsShapes(t *testing.T) {
	a := pair(t)
	if k, f, s, e := a.Object(1); k != 3 || f != 1 || s != 2 || e != api.OK {
		t.Errorf("Object(1) = %d, %d, %d, %d", k, f, s, e)
	}
	if k, f, s, e := a.Object(5); k != 7 || f != 2 || s != 0 || e != api.OK {
		t.Errorf("Object(5) = %d, %d, %d, %d", k, f, s, e)
	}
}

// refuseAt asks everything of a word at which no object can be asked, with other arguments that would be wrong too.
func refuseAt(t *testing.T, a *arena.Arena, at int, want api.Errno) {
	t.Helper()
	if k, f, s, e := a.Object(at); k != 0 || f != 0 || s != 0 || e != want {
		t.Errorf("Object(%d) = %d, %d, %d, %d, want %d", at, k, f, s, e, want)
	}
	for _, i := range []int{0, -1, 99} {
		if v, e := a.Get(at, i); v != 0 || e != want {
			t.Errorf("Get(%d, %d) = %d, %d, want %d", at, i, v, e, want)
		}
		if e := a.Set(at, i, 5); e != want {
			t.Errorf("Set(%d, %d, 5) = %d, want %d", at, i, e, want)
		}
		if b, e := a.Bytes(at, i, i); len(b) != 0 || e != want {
			t.Errorf("Bytes(%d, %d, %d) = %v, %d, want %d", at, i, i, b, e, want)
		}
		if e := a.SetBytes(at, i, []byte("x")); e != want {
			t.Errorf("SetBytes(%d, %d, x) = %d, want %d", at, i, e, want)
		}
	}
}

func refuseMove(t *testing.T, a *arena.Arena, at int) {
	t.Helper()
	if to, moved, e := a.Moved(at); to != 0 || moved || e != api.ErrArenaAt {
		t.Errorf("Moved(%d) = %d, %v, %d, want ErrArenaAt", at, to, moved, e)
	}
	for _, b := range []*arena.Arena{a, block(t, 1), block(t, 20)} {
		if to, e := b.Take(a, at); to != 0 || e != api.ErrArenaAt {
			t.Errorf("Take(%d) = %d, %d, want ErrArenaAt", at, to, e)
		}
	}
}

func TestP2_1_WordsWhereNoObjectBegins(t *testing.T) {
	a := block(t, 12)
	lay(t, a, 3, 1, 2, 1)
	lay(t, a, 7, 2, 0, 5)
	// Fields that look like heads, and like heads of moved objects.
	a.Set(1, 0, head(1, 0, 0))
	a.Set(1, 1, 1<<63|1)
	a.Set(5, 1, head(1, 0, 1))
	before := a.Image()
	for _, at := range []int{0, 2, 3, 4, 6, 7, 8, 9, 11, 12, 13, -1, -5, 1 << 32, 1<<32 + 1, least, least + 1, most} {
		refuseAt(t, a, at, api.ErrArenaAt)
		refuseMove(t, a, at)
	}
	wantImage(t, a, before...)
}

func TestP2_1_FieldsOutside(t *testing.T) {
	a := pair(t)
	before := a.Image()
	for _, c := range []struct{ at, i int }{{1, 3}, {1, -1}, {1, 4}, {5, 2}, {5, -1}, {1, most}, {1, least}, {5, 1 << 32}} {
		if v, e := a.Get(c.at, c.i); v != 0 || e != api.ErrArenaField {
			t.Errorf("Get(%d, %d) = %d, %d, want ErrArenaField", c.at, c.i, v, e)
		}
		if e := a.Set(c.at, c.i, 9); e != api.ErrArenaField {
			t.Errorf("Set(%d, %d, 9) = %d, want ErrArenaField", c.at, c.i, e)
		}
	}
	wantImage(t, a, before...)
	bare := block(t, 3)
	lay(t, bare, 1, 0, 0, 1)
	if _, e := bare.Get(1, 0); e != api.ErrArenaField {
		t.Errorf("Get of an object without fields: %d", e)
	}
}

func TestP2_2_SetChangesOneWord(t *testing.T) {
	a := pair(t)
	for _, c := range []struct {
		at, i int
		v     uint64
	}{{1, 0, 5}, {1, 2, ^uint64(0)}, {5, 1, 1 << 63}, {5, 0, head(9, 9, 9)}, {1, 1, 77}, {1, 0, 0}} {
		want := a.Image()
		want[c.at+1+c.i] = c.v
		if e := a.Set(c.at, c.i, c.v); e != api.OK {
			t.Errorf("Set(%d, %d, %#x) = %d", c.at, c.i, c.v, e)
		}
		wantImage(t, a, want...)
		if v, e := a.Get(c.at, c.i); v != c.v || e != api.OK {
			t.Errorf("Get(%d, %d) = %#x, %d, want %#x", c.at, c.i, v, e, c.v)
		}
	}
}

func TestP2_2_AllocLeavesTheOthersAlone(t *testing.T) {
	a := block(t, 20)
	lay(t, a, 1, 1, 1, 1)
	a.Set(1, 0, 11)
	a.Set(1, 1, 22)
	lay(t, a, 2, 0, 2, 4)
	a.SetBytes(4, 0, []byte("0123456789abcdef"))
	before := a.Image()
	lay(t, a, 3, 4, 4, 7)
	wantImage(t, a, append(before, head(3, 4, 4), 0, 0, 0, 0, 0, 0, 0, 0)...)
}

func TestP2_2_ClearForgetsTheObjects(t *testing.T) {
	a := block(t, 10)
	lay(t, a, 1, 0, 1, 1)
	lay(t, a, 2, 2, 4, 3)
	for i := range 6 {
		a.Set(3, i, ^uint64(0))
	}
	a.Clear()
	wantImage(t, a, 0)
	if a.Size() != 10 {
		t.Errorf("Size() = %d behind Clear", a.Size())
	}
	refuseAt(t, a, 1, api.ErrArenaAt)
	refuseAt(t, a, 3, api.ErrArenaAt)
	refuseMove(t, a, 1)
	// Laid over what stood there: the fields are 0, and word 3 begins nothing any more.
	lay(t, a, 5, 1, 5, 1)
	wantImage(t, a, 0, head(5, 1, 5), 0, 0, 0, 0, 0, 0)
	refuseAt(t, a, 3, api.ErrArenaAt)
	refuseMove(t, a, 3)
	a.Clear()
	a.Clear()
	wantImage(t, a, 0)
}

func TestP2_3_ObjectBehindObjectComesToUsed(t *testing.T) {
	a := block(t, 400)
	var places []int
	for i := range 60 {
		at, e := a.Alloc(1+i, i%3, i%7)
		if e != api.OK {
			t.Fatalf("Alloc: %d", e)
		}
		places = append(places, at)
		for k := range i%3 + i%7 {
			a.Set(at, k, head(1, 0, 0))
		}
	}
	var met []int
	at := 1
	for at < a.Used() {
		kind, refs, raws, e := a.Object(at)
		if i := kind - 1; e != api.OK || refs != i%3 || raws != i%7 {
			t.Fatalf("Object(%d) = %d, %d, %d, %d", at, kind, refs, raws, e)
		}
		met = append(met, at)
		at += 1 + refs + raws
	}
	if at != a.Used() || !slices.Equal(met, places) {
		t.Errorf("the walk met %v and came to %d; the objects are %v, Used %d", met, at, places, a.Used())
	}
}
