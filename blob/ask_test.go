package blob_test

import (
	"bytes"
	"math/bits"
	"testing"

	"larder/api"
	"larder/blob"
)

func TestP4_3_SlicesOfEveryLength(t *testing.T) {
	h := made(t, 8192)
	for _, length := range edges {
		all := text(length)
		ref := laid(t, h, all)
		wantRead(t, h, ref, all)
		for _, from := range []int{0, 1, 6, 7, 8, 9, length / 2, length - 1, length} {
			for _, n := range []int{0, 1, 2, 7, 8, 9, length - from - 1, length - from} {
				if from < 0 || n < 0 || from+n > length {
					continue
				}
				if b, e := blob.Slice(h, ref, from, n); string(b) != all[from:from+n] || e != api.OK {
					t.Errorf("%d bytes: Slice(%d, %d) = %q, %d", length, from, n, b, e)
				}
			}
		}
	}
}

// wrongSpans are those that a blob of that length doesn't have.
func wrongSpans(length int) [][2]int {
	return [][2]int{
		{-1, 0}, {-1, 1}, {0, -1}, {length, -1}, {-1, -1},
		{0, length + 1}, {1, length}, {length, 1}, {length + 1, 0}, {length + 1, -1},
		{0, 8 * (length/8 + 1)}, {0, 4097}, {4097, 0},
		{1, most}, {most, 1}, {most, most}, {most, 0}, {0, most}, {length, most},
		{least, 0}, {least, most}, {least, least}, {0, least}, {length, least}, {most, least}, {-8, 8}, {-8, 1},
	}
}

func TestP4_3_WrongSlices(t *testing.T) {
	h := made(t, 8192)
	for _, length := range []int{0, 1, 4, 8, 11, 600, 4096} {
		ref := laid(t, h, text(length))
		before := stateOf(h)
		for _, c := range wrongSpans(length) {
			if b, e := blob.Slice(h, ref, c[0], c[1]); len(b) != 0 || e != api.ErrBlobSpan {
				t.Errorf("%d bytes: Slice(%d, %d) = %q, %d, want ErrBlobSpan", length, c[0], c[1], b, e)
			}
		}
		wantState(t, h, before, "a refused Slice")
	}
}

func TestP4_3_AskingChangesNothing(t *testing.T) {
	for _, b := range []string{"abcdefghi", text(600)} {
		h := made(t, 8192)
		ref := laid(t, h, b)
		before := stateOf(h)
		blob.Len(h, ref)
		blob.Read(h, ref)
		blob.Slice(h, ref, 1, 5)
		blob.Compare(h, ref, []byte("abcdefgha"))
		blob.Count(h, ref, 1, 5)
		wantState(t, h, before, "asking")
	}
}

func TestP4_5_Compare(t *testing.T) {
	h := made(t, 8192)
	// each is less than those behind it
	row := []string{"", "\x00", "\x00\x00", "\x00\x01", "\x01", "A", "Z", "a", "ab", "abc", "abcdefg", "abcdefgh", "abcdefgh\x00", "abcdefghi", "abcdefgi", "abd", "b", "\x7f", "\x80", "\xff", "\xff\x00", "\xff\xff"}
	for i, a := range row {
		ref := laid(t, h, a)
		for k, b := range row {
			want := 0
			if i < k {
				want = -1
			} else if i > k {
				want = 1
			}
			if got, e := blob.Compare(h, ref, []byte(b)); got != want || e != api.OK {
				t.Errorf("Compare(%q, %q) = %d, %d, want %d", a, b, got, e, want)
			}
		}
	}
	if got, e := blob.Compare(h, laid(t, h), nil); got != 0 || e != api.OK {
		t.Errorf("Compare of the empty blob with nil = %d, %d", got, e)
	}
}

func TestP4_5_CompareLongOnes(t *testing.T) {
	h := made(t, 8192)
	all := text(4096)
	ref := laid(t, h, all)
	for _, c := range []struct {
		b    string
		want int
	}{
		{all, 0}, {all + "\x00", -1}, {all + all, -1}, {all[:4095], 1}, {all[:4095] + "\xff", -1}, {all[:4095] + "\x00", 1}, {all[:4000] + "\xff", -1}, {"\x00" + all, 1}, {"\x02", -1}, {"", 1},
	} {
		if got, e := blob.Compare(h, ref, []byte(c.b)); got != c.want || e != api.OK {
			t.Errorf("Compare with %d bytes = %d, %d, want %d", len(c.b), got, e, c.want)
		}
	}
}

func TestP4_6_Count(t *testing.T) {
	h := made(t, 8192)
	for b := range 256 {
		ref := laid(t, h, string([]byte{0xff, byte(b), 0xff}))
		if got, e := blob.Count(h, ref, 1, 1); got != bits.OnesCount(uint(b)) || e != api.OK {
			t.Errorf("Count of the byte %#x = %d, %d", b, got, e)
		}
	}
	for _, length := range edges {
		ref := laid(t, h, text(length))
		for _, from := range []int{0, 1, 7, 8, length / 2, length} {
			for _, n := range []int{0, 1, 8, 9, length - from} {
				if n < 0 || from+n > length {
					continue
				}
				want := 0
				for _, b := range []byte(text(length)[from : from+n]) {
					for ; b != 0; b >>= 1 {
						want += int(b & 1)
					}
				}
				if got, e := blob.Count(h, ref, from, n); got != want || e != api.OK {
					t.Errorf("%d bytes: Count(%d, %d) = %d, %d, want %d", length, from, n, got, e, want)
				}
			}
		}
	}
	ref := laid(t, h, string(bytes.Repeat([]byte{0xff}, 4096)))
	if got, e := blob.Count(h, ref, 0, 4096); got != 8*4096 || e != api.OK {
		t.Errorf("Count of 4096 bytes 0xff = %d, %d", got, e)
	}
}

func TestP4_6_WrongSpans(t *testing.T) {
	h := made(t, 8192)
	for _, length := range []int{0, 1, 4, 8, 11, 600, 4096} {
		ref := laid(t, h, text(length))
		for _, c := range wrongSpans(length) {
			if n, e := blob.Count(h, ref, c[0], c[1]); n != 0 || e != api.ErrBlobSpan {
				t.Errorf("%d bytes: Count(%d, %d) = %d, %d, want ErrBlobSpan", length, c[0], c[1], n, e)
			}
		}
	}
}
