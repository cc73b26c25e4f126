package word_test

import (
	"testing"

	"larder/api"
	"larder/word"
)

func TestP1_2_HeadLaysTheParts(t *testing.T) {
	for _, c := range []struct {
		kind, refs, raws int
		want             uint64
	}{
		{3, 2, 1, 0x0000000100000203},
		{1, 0, 0, 0x1},
		{255, 1 << 20, 1 << 20, 0x00100000100000ff},
		{255, 0, 0, 0xff},
		{1, 1, 0, 0x101},
		{1, 0, 1, 0x100000001},
		{1, api.MaxField, 0, 0x10000001},
		{1, 0, api.MaxField, 0x0010000000000001},
		{0xa5, 0x0c3b7, 0x96d2e, 0x00096d2e00c3b7a5},
	} {
		if w, e := word.Head(c.kind, c.refs, c.raws); w != c.want || e != api.OK {
			t.Errorf("Head(%d, %d, %d) = %#x, %d, want %#x", c.kind, c.refs, c.raws, w, e, c.want)
		}
	}
}

func TestP1_2_HeadRefusesWhatIsOutside(t *testing.T) {
	const least, most = -1 << 63, 1<<63 - 1
	for _, kind := range []int{0, 256, -1, 257, 1 << 32, least, most} {
		refuseHead(t, kind, 0, 0)
	}
	for _, n := range []int{-1, api.MaxField + 1, 1 << 24, 1 << 32, least, most} {
		refuseHead(t, 1, n, 0)
		refuseHead(t, 1, 0, n)
		refuseHead(t, 1, n, n)
	}
	refuseHead(t, 0, -1, -1)
}

func refuseHead(t *testing.T, kind, refs, raws int) {
	t.Helper()
	if w, e := word.Head(kind, refs, raws); w != 0 || e != api.ErrHead {
		t.Errorf("Head(%d, %d, %d) = %#x, %d, want 0, ErrHead", kind, refs, raws, w, e)
	}
}

func TestP1_3_SplitTurnsHeadBack(t *testing.T) {
	if k, f, s, e := word.Split(0x0000000100000203); k != 3 || f != 2 || s != 1 || e != api.OK {
		t.Errorf("Split(0x0000000100000203) = %d, %d, %d, %d", k, f, s, e)
	}
	counts := []int{0, 1, 2, 255, 256, 0x5a5a5, 1<<19 - 1, api.MaxField - 1, api.MaxField}
	for kind := 1; kind <= api.MaxKind; kind++ {
		for _, refs := range counts {
			for _, raws := range counts {
				w, _ := word.Head(kind, refs, raws)
				if k, f, s, e := word.Split(w); k != kind || f != refs || s != raws || e != api.OK {
					t.Fatalf("Split(%#x) = %d, %d, %d, %d, want %d, %d, %d, OK", w, k, f, s, e, kind, refs, raws)
				}
			}
		}
	}
}

func TestP1_3_SplitRefusesWhatHeadNeverGives(t *testing.T) {
	for _, w := range []uint64{0, 0x100, 1 + 1<<63, 1 + 1<<56, 0x0000000010000101, 0x0010000100000001, 1 << 32, 0x0010000010000000, ^uint64(0)} {
		refuseSplit(t, w)
	}
	for bit := 56; bit < 64; bit++ {
		refuseSplit(t, 0x0000000100000203|1<<bit)
	}
	for bit := 21; bit < 24; bit++ {
		refuseSplit(t, 1|1<<(8+bit))
		refuseSplit(t, 1|1<<(32+bit))
	}
}

func refuseSplit(t *testing.T, w uint64) {
	t.Helper()
	if k, f, s, e := word.Split(w); k != 0 || f != 0 || s != 0 || e != api.ErrHead {
		t.Errorf("Split(%#x) = %d, %d, %d, %d, want 0, 0, 0, ErrHead", w, k, f, s, e)
	}
}
