package word_test

import (
	"testing"

	"larder/word"
)

// plainMix and plainHash follow the words of P1.11 step by step.
func plainMix(x uint64) uint64 {
	x = x ^ (x >> 32)
	x = x * 0xd6a5c39b71e4f28d
	x = x ^ (x >> 29)
	x = x * 0xb34f6e1d9c2a7585
	return x ^ (x >> 32)
}

func plainHash(seed uint64, b []byte) uint64 {
	h := plainMix(seed + uint64(len(b)))
	for i := 0; i < len(b); i += 8 {
		w := uint64(0)
		for j := i; j < min(i+8, len(b)); j++ {
			w |= uint64(b[j]) << (8 * (j - i))
		}
		h = plainMix(h ^ w)
	}
	return h
}

// plainSum follows the words of P1.12 bit by bit.
func plainSum(b []byte) uint64 {
	r := ^uint64(0)
	for _, c := range b {
		for bit := 7; bit >= 0; bit-- {
			t := r>>63 ^ uint64(c>>bit&1)
			r <<= 1
			if t == 1 {
				r ^= 0x42F0E1EBA9EA3693
			}
		}
	}
	return r
}

func TestP1_11_HashExamples(t *testing.T) {
	for _, c := range []struct {
		seed uint64
		b    string
		want uint64
	}{
		{0, "", 0x0000000000000000}, {7, "", 0xc63b97eea24a8829}, {0, "a", 0xe556141d3e995424}, {7, "abcdefgh", 0x695a1aabd2b18c80}, {7, "abcdefghi", 0xba08967f27fd9ffb}, {0, "\x00", 0xe67b7d9d63e91f56},
	} {
		if h := word.Hash(c.seed, []byte(c.b)); h != c.want {
			t.Errorf("Hash(%d, %q) = %#x, want %#x", c.seed, c.b, h, c.want)
		}
	}
	if word.Hash(7, nil) != word.Hash(7, []byte{}) {
		t.Error("Hash(7, nil) is not that of the empty text")
	}
	// The seed and the length are added modulo 2^64.
	if word.Hash(1<<64-1, []byte{1}) != plainMix(1) {
		t.Errorf("Hash(1<<64-1, 1) = %#x", word.Hash(1<<64-1, []byte{1}))
	}
}

func TestP1_11_HashFollowsItsSteps(t *testing.T) {
	for _, seed := range []uint64{0, 1, 7, 1 << 32, 1 << 63, 1<<64 - 1, 0x0123456789abcdef} {
		for n := range 70 {
			b := someBytes(n)
			if h := word.Hash(seed, b); h != plainHash(seed, b) {
				t.Errorf("Hash(%d, %d bytes) = %#x, want %#x", seed, n, h, plainHash(seed, b))
			}
		}
	}
}

func TestP1_11_HashTellsOneWordApart(t *testing.T) {
	b := someBytes(40)
	h := word.Hash(3, b)
	for i := range 8 * len(b) {
		b[i/8] ^= 1 << (i % 8)
		if word.Hash(3, b) == h {
			t.Errorf("bit %d turned: the same hash", i)
		}
		b[i/8] ^= 1 << (i % 8)
	}
	seen := map[uint64]uint64{}
	for seed := range uint64(2000) {
		h := word.Hash(seed, b)
		if other, ok := seen[h]; ok {
			t.Errorf("seeds %d and %d: the same hash", other, seed)
		}
		seen[h] = seed
	}
}

func TestP1_12_SumExamples(t *testing.T) {
	for _, c := range []struct {
		b    string
		want uint64
	}{
		{"", 0xffffffffffffffff}, {"a", 0x318c0bd8533f5665}, {"abcdefghi", 0xacbcd5e1d057d966}, {"\x00", 0x650319d9317a4a07},
	} {
		if s := word.Sum([]byte(c.b)); s != c.want {
			t.Errorf("Sum(%q) = %#x, want %#x", c.b, s, c.want)
		}
	}
	if s := word.Sum(nil); s != ^uint64(0) {
		t.Errorf("Sum(nil) = %#x", s)
	}
}

func TestP1_12_SumFollowsItsBits(t *testing.T) {
	for c := range 256 {
		b := []byte{byte(c)}
		if s := word.Sum(b); s != plainSum(b) {
			t.Errorf("Sum(%q) = %#x, want %#x", b, s, plainSum(b))
		}
	}
	for _, n := range []int{2, 3, 7, 8, 9, 64, 255, 256, 4096} {
		b := someBytes(n)
		if s := word.Sum(b); s != plainSum(b) {
			t.Errorf("Sum of %d bytes = %#x, want %#x", n, s, plainSum(b))
		}
	}
}

func TestP1_12_SumTellsShortFaultsApart(t *testing.T) {
	b := someBytes(40)
	s := word.Sum(b)
	turn := func(from, width int) {
		for i := from; i < from+width; i++ {
			b[i/8] ^= 128 >> (i % 8)
		}
	}
	for width := 1; width <= 64; width++ {
		for from := 0; from+width <= 8*len(b); from++ {
			turn(from, width)
			if word.Sum(b) == s {
				t.Errorf("%d bits from %d on turned: the same sum", width, from)
			}
			turn(from, width)
		}
	}
}
