package word

// Hash tells a number for bytes, by a seed.
func Hash(seed uint64, b []byte) uint64 {
	h := mix(seed + uint64(len(b)))
	for _, w := range Pack(b) {
		h = mix(h ^ w)
	}
	return h
}

func mix(x uint64) uint64 {
	x ^= x >> 32
	x *= 0xd6a5c39b71e4f28d
	x ^= x >> 29
	x *= 0xb34f6e1d9c2a7585
	x ^= x >> 32
	return x
}

// Sum tells the cyclic sum of bytes.
func Sum(b []byte) uint64 {
	// Row i: what four steps without input make of a register whose top four bits are i and whose others are 0.
	rows := [16]uint64{
		0x0000000000000000, 0x42f0e1eba9ea3693, 0x85e1c3d753d46d26, 0xc711223cfa3e5bb5,
		0x493366450e42ecdf, 0x0bc387aea7a8da4c, 0xccd2a5925d9681f9, 0x8e224479f47cb76a,
		0x9266cc8a1c85d9be, 0xd0962d61b56fef2d, 0x17870f5d4f51b498, 0x5577eeb6e6bb820b,
		0xdb55aacf12c73561, 0x99a54b24bb2d03f2, 0x5eb4691841135847, 0x1c4488f3e8f96ed4,
	}
	r := ^uint64(0)
	for _, c := range b {
		r = r<<4 ^ rows[r>>60^uint64(c>>4)]
		r = r<<4 ^ rows[r>>60^uint64(c&15)]
	}
	return r
}
