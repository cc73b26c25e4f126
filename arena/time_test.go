package arena_test

import (
	"testing"
	"time"

	"larder/api"
	"larder/arena"
)

const patience = 5 * time.Second

// quick asks something so often that it ends in time only if one asking goes through a few words, not through a block of MaxLimit words.
func quick(t *testing.T, name string, ask func()) {
	t.Helper()
	start := time.Now()
	for i := range 100_000 {
		ask()
		if i%100 == 0 && time.Since(start) > patience {
			t.Errorf("%s: %d askings took %v", name, i+1, time.Since(start))
			return
		}
	}
}

func TestP2_1_AskingGoesThroughNoBlock(t *testing.T) {
	a, b := block(t, api.MaxLimit), block(t, api.MaxLimit)
	for range a.Size() - 1 {
		a.Alloc(1, 0, 0)
	}
	last := a.Used() - 1
	quick(t, "Object", func() { a.Object(last) })
	quick(t, "Get", func() { a.Get(last, 0) })
	quick(t, "Set", func() { a.Set(last, 0, 1) })
	quick(t, "Moved", func() { a.Moved(last) })
	quick(t, "Alloc in a full block", func() { a.Alloc(1, 0, 0) })
	take(t, b, a, last, 1)
	quick(t, "Take of a moved one", func() { b.Take(a, last) })
	quick(t, "Alloc and Clear", func() { b.Clear(); b.Alloc(1, 0, 0) })
	quick(t, "Image", func() { b.Image() })
}

func TestP2_1_BytesGoThroughThoseBytes(t *testing.T) {
	a, b := block(t, api.MaxLimit), block(t, 3)
	lay(t, a, 1, 0, api.MaxLimit-2, 1)
	end := 8*(api.MaxLimit-2) - 3
	some := []byte("abc")
	quick(t, "Bytes", func() { a.Bytes(1, end, 3) })
	quick(t, "Bytes of a long object's beginning", func() { a.Bytes(1, 0, 3) })
	quick(t, "SetBytes", func() { a.SetBytes(1, end, some) })
	quick(t, "SetBytes at a long object's beginning", func() { a.SetBytes(1, 0, some) })
	quick(t, "Set", func() { a.Set(1, api.MaxLimit-3, 7) })
	quick(t, "Get", func() { a.Get(1, 0) })
	quick(t, "Take without room", func() { b.Take(a, 1) })
}

func TestP2_1_SmallObjectsOfAFullBlock(t *testing.T) {
	start := time.Now()
	a, b := block(t, api.MaxLimit), block(t, api.MaxLimit)
	fill := func(full *arena.Arena) (n int) {
		for {
			if _, e := full.Alloc(2, 0, 0); e != api.OK {
				return n
			}
			n++
		}
	}
	if n := fill(a); n != api.MaxLimit-1 {
		t.Fatalf("%d objects of one word", n)
	}
	for at := a.Used() - 1; at > 0; at-- {
		if to, e := b.Take(a, at); to != a.Used()-at || e != api.OK {
			t.Fatalf("Take(%d) = %d, %d", at, to, e)
		}
	}
	if time.Since(start) > patience {
		t.Errorf("filling two blocks took %v", time.Since(start))
	}
}
