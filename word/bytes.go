package word

import "larder/api"

// wordBytes: how many bytes a word holds.
const wordBytes = 8

// Words tells how many words n bytes take.
func Words(n int) int {
	if n < 1 {
		return 0
	}
	// n + 7 would wrap near the greatest int.
	return (n-1)/wordBytes + 1
}

// Pack lays bytes into words.
func Pack(b []byte) []uint64 {
	w := make([]uint64, Words(len(b)))
	for i := range len(b) {
		w[i/wordBytes] |= uint64(b[i]) << byteAt(i)
	}
	return w
}

// Unpack takes the first n bytes out of words.
func Unpack(w []uint64, n int) ([]byte, api.Errno) {
	if n < 0 || Words(n) > len(w) {
		return nil, api.ErrShort
	}
	b := make([]byte, n)
	for i := range n {
		b[i] = byte(w[i/wordBytes] >> byteAt(i))
	}
	return b, api.OK
}

// byteAt tells the lowest bit that byte i takes in its word.
func byteAt(i int) int {
	return 8 * (i % wordBytes)
}
