package word_test

import (
	"bytes"
	"slices"
	"testing"

	"larder/api"
	"larder/word"
)

// someBytes makes n bytes without a short period; all of 0 to 255 occur in long ones.
func someBytes(n int) []byte {
	b := make([]byte, n)
	for i := range n {
		b[i] = byte(i*167 + i/256*31 + 200)
	}
	return b
}

func TestP1_4_Words(t *testing.T) {
	for _, c := range []struct{ n, want int }{
		{0, 0}, {-1, 0}, {-8, 0}, {-1 << 63, 0}, {1, 1}, {7, 1}, {8, 1}, {9, 2}, {15, 2}, {16, 2}, {17, 3}, {4095, 512}, {4096, 512}, {4097, 513},
		{1<<63 - 1, 1 << 60}, {1<<63 - 7, 1 << 60}, {1<<63 - 8, 1<<60 - 1}, {1<<63 - 9, 1<<60 - 1},
	} {
		if k := word.Words(c.n); k != c.want {
			t.Errorf("Words(%d) = %d, want %d", c.n, k, c.want)
		}
	}
	for n := 1; n < 1000; n++ {
		if k := word.Words(n); 8*k < n || 8*(k-1) >= n {
			t.Errorf("Words(%d) = %d is not the least", n, k)
		}
	}
}

func TestP1_5_PackExamples(t *testing.T) {
	for _, c := range []struct {
		b    string
		want []uint64
	}{
		{"", []uint64{}},
		{"\x01\x02\x03", []uint64{0x30201}},
		{"abcdefgh", []uint64{0x6867666564636261}},
		{"abcdefghi", []uint64{0x6867666564636261, 0x69}},
		{"\x00", []uint64{0}},
		{"\xff\xff\xff\xff\xff\xff\xff\xff\xff", []uint64{1<<64 - 1, 0xff}},
		{"\x00\x00\x00\x00\x00\x00\x00\x80", []uint64{1 << 63}},
	} {
		if w := word.Pack([]byte(c.b)); !slices.Equal(w, c.want) {
			t.Errorf("Pack(%q) = %#x, want %#x", c.b, w, c.want)
		}
	}
	if w := word.Pack(nil); len(w) != 0 {
		t.Errorf("Pack(nil) = %#x", w)
	}
}

func TestP1_5_PackPutsEachByteInItsPlace(t *testing.T) {
	for n := range 70 {
		b := someBytes(n)
		w := word.Pack(b)
		if len(w) != (n+7)/8 {
			t.Fatalf("Pack of %d bytes has %d words", n, len(w))
		}
		for i := range 8 * len(w) {
			want := byte(0)
			if i < n {
				want = b[i]
			}
			if got := byte(w[i/8] >> (8 * (i % 8))); got != want {
				t.Errorf("Pack of %d bytes: byte %d is %d, want %d", n, i, got, want)
			}
		}
	}
}

func TestP1_6_UnpackExamples(t *testing.T) {
	w := []uint64{0x6867666564636261, 0xffffffffffffff69}
	for _, c := range []struct {
		w    []uint64
		n    int
		want string
	}{
		{w[:1], 3, "abc"}, {nil, 0, ""}, {[]uint64{}, 0, ""}, {w, 0, ""}, {w, 1, "a"}, {w, 7, "abcdefg"}, {w, 8, "abcdefgh"}, {w, 9, "abcdefghi"}, {w, 10, "abcdefghi\xff"}, {w, 16, "abcdefghi\xff\xff\xff\xff\xff\xff\xff"}, {[]uint64{5}, 8, "\x05\x00\x00\x00\x00\x00\x00\x00"},
	} {
		if b, e := word.Unpack(c.w, c.n); string(b) != c.want || e != api.OK {
			t.Errorf("Unpack(%#x, %d) = %q, %d, want %q", c.w, c.n, b, e, c.want)
		}
	}
}

func TestP1_6_UnpackTurnsPackBack(t *testing.T) {
	for _, n := range []int{0, 1, 7, 8, 9, 63, 64, 65, 300, 4096} {
		b := someBytes(n)
		w := append(word.Pack(b), 1<<64-1)
		if got, e := word.Unpack(w, n); !bytes.Equal(got, b) || e != api.OK {
			t.Errorf("Unpack of Pack of %d bytes: %d bytes, %d", n, len(got), e)
		}
	}
}

func TestP1_6_UnpackRefusesOtherCounts(t *testing.T) {
	for _, c := range []struct {
		w []uint64
		n int
	}{
		{nil, 1}, {[]uint64{}, 1}, {[]uint64{5}, 9}, {[]uint64{5}, -1}, {nil, -1}, {[]uint64{5, 6}, 17}, {[]uint64{5}, 1<<63 - 1}, {[]uint64{5}, -1 << 63}, {[]uint64{5}, 1 << 61}, {nil, 1<<63 - 1},
		{make([]uint64, 1, 4), 9},
	} {
		if b, e := word.Unpack(c.w, c.n); len(b) != 0 || e != api.ErrShort {
			t.Errorf("Unpack(%#x, %d) = %q, %d, want ErrShort", c.w, c.n, b, e)
		}
	}
}
