package arena_test

import (
	"bytes"
	"slices"
	"testing"

	"larder/api"
	"larder/arena"
)

func wantBytes(t *testing.T, a *arena.Arena, at, from, n int, want []byte) {
	t.Helper()
	if b, e := a.Bytes(at, from, n); e != api.OK || !bytes.Equal(b, want) {
		t.Errorf("Bytes(%d, %d, %d) = %v, %d, want %v", at, from, n, b, e, want)
	}
}

func TestP2_2_BytesAreTheRaws(t *testing.T) {
	a := pair(t)
	a.Set(1, 0, 0x1122334455667788)
	a.Set(1, 1, 0x0807060504030201)
	a.Set(1, 2, 0x100f0e0d0c0b0a09)
	wantBytes(t, a, 1, 0, 16, []byte{1, 2, 3, 4, 5, 6, 7, 8, 9, 10, 11, 12, 13, 14, 15, 16})
	for from := range 17 {
		for n := range 17 - from {
			want := make([]byte, 0, n)
			for i := range n {
				want = append(want, byte(1+from+i))
			}
			wantBytes(t, a, 1, from, n, want)
		}
	}
}

func TestP2_2_SetBytesChangesThoseBytesAlone(t *testing.T) {
	a := pair(t)
	if e := a.SetBytes(1, 6, []byte{65, 66, 67}); e != api.OK {
		t.Fatalf("SetBytes: %d", e)
	}
	wantImage(t, a, 0, head(3, 1, 2), 0, 0x4241000000000000, 0x43, head(7, 2, 0), 0, 0)
	wantBytes(t, a, 1, 0, 16, []byte{0, 0, 0, 0, 0, 0, 65, 66, 67, 0, 0, 0, 0, 0, 0, 0})
}

// Every run of bytes of an object between two others, with nothing but ones around it.
func TestP2_2_SetBytesAtEveryPlace(t *testing.T) {
	const raws = 3
	for from := range 8*raws + 1 {
		for n := range 8*raws - from + 1 {
			a := block(t, 20)
			lay(t, a, 1, 1, 1, 1)
			lay(t, a, 2, 2, raws, 4)
			lay(t, a, 3, 0, 2, 10)
			for _, c := range [][2]int{{1, 2}, {4, 5}, {10, 2}} {
				for i := range c[1] {
					a.Set(c[0], i, ^uint64(0))
				}
			}
			before := a.Image()
			want := bytes.Repeat([]byte{0xff}, 8*raws)
			b := make([]byte, n)
			for i := range n {
				b[i] = byte(3 + 5*i)
				want[from+i] = b[i]
			}
			if e := a.SetBytes(4, from, b); e != api.OK {
				t.Fatalf("SetBytes(4, %d, %d bytes) = %d", from, n, e)
			}
			wantBytes(t, a, 4, 0, 8*raws, want)
			after := a.Image()
			if !slices.Equal(after[:7], before[:7]) || !slices.Equal(after[10:], before[10:]) {
				t.Errorf("SetBytes(4, %d, %d bytes) changed more than the raws: %#x", from, n, after)
			}
		}
	}
}

func TestP2_1_SpansOutside(t *testing.T) {
	a := pair(t)
	a.SetBytes(1, 0, []byte("0123456789abcdef"))
	before := a.Image()
	for _, c := range []struct{ at, from, n int }{
		{1, 14, 3}, {1, 0, 17}, {1, 16, 1}, {1, 17, 0}, {1, 17, -1}, {1, -1, 1}, {1, -1, 0}, {1, 0, -1}, {1, 16, -16}, {5, 0, 1}, {5, 1, 0}, {5, 1, -1},
		{1, 1, most}, {1, most, 1}, {1, most, most}, {1, least, 0}, {1, 0, least}, {1, least, most}, {1, least, least}, {1, most, least}, {1, -8, 16},
	} {
		if b, e := a.Bytes(c.at, c.from, c.n); b != nil || e != api.ErrArenaSpan {
			t.Errorf("Bytes(%d, %d, %d) = %v, %d, want ErrArenaSpan", c.at, c.from, c.n, b, e)
		}
		if c.n >= 0 && c.n < 100 {
			if e := a.SetBytes(c.at, c.from, make([]byte, c.n)); e != api.ErrArenaSpan {
				t.Errorf("SetBytes(%d, %d, %d bytes) = %d, want ErrArenaSpan", c.at, c.from, c.n, e)
			}
		}
	}
	wantImage(t, a, before...)
}

func TestP2_1_NoBytesAtAll(t *testing.T) {
	a := pair(t)
	a.SetBytes(1, 0, []byte("0123456789abcdef"))
	before := a.Image()
	for _, c := range []struct{ at, from int }{{1, 0}, {1, 5}, {1, 8}, {1, 15}, {1, 16}, {5, 0}} {
		wantBytes(t, a, c.at, c.from, 0, nil)
		for _, b := range [][]byte{nil, {}} {
			if e := a.SetBytes(c.at, c.from, b); e != api.OK {
				t.Errorf("SetBytes(%d, %d, nothing) = %d", c.at, c.from, e)
			}
		}
	}
	wantImage(t, a, before...)
}
