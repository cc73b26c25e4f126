package word

import (
	"math"
	"strconv"

	"larder/api"
)

// Int reads an integer in its one form.
func Int(b []byte) (int64, api.Errno) {
	negative := len(b) > 0 && b[0] == '-'
	if negative {
		b = b[1:]
	}
	if !isPlain(b) || negative && b[0] == '0' {
		return 0, api.ErrInt
	}
	size, fits := read(b)
	most := uint64(math.MaxInt64)
	if negative {
		most++
	}
	if !fits || size > most {
		return 0, api.ErrOver
	}
	if negative {
		// The word is negated ahead of the conversion: -1<<63 has no positive int64.
		return int64(-size), api.OK
	}
	return int64(size), api.OK
}

// Text writes an integer in its one form.
func Text(n int64) []byte {
	return strconv.AppendInt(nil, n, 10)
}

// Add adds, or tells that the sum is no int64.
func Add(a, b int64) (int64, api.Errno) {
	sum := a + b
	// A sum wraps only where both parts have the one sign and it has the other.
	if (a^sum)&(b^sum) < 0 {
		return 0, api.ErrOver
	}
	return sum, api.OK
}

// Uint reads an integer from 0 to 1<<64-1 in its one form.
func Uint(b []byte) (uint64, api.Errno) {
	if !isPlain(b) {
		return 0, api.ErrInt
	}
	n, fits := read(b)
	if !fits {
		return 0, api.ErrInt
	}
	return n, api.OK
}

// Digits writes such an integer in its one form.
func Digits(n uint64) []byte {
	return strconv.AppendUint(nil, n, 10)
}

// isPlain tells whether b spells a number without a sign, of whatever size.
func isPlain(b []byte) bool {
	if len(b) == 0 || b[0] == '0' && len(b) > 1 {
		return false
	}
	for _, c := range b {
		if c < '0' || c > '9' {
			return false
		}
	}
	return true
}

// read tells the number of a plain spelling; 0 and false, if it is no word.
func read(digits []byte) (uint64, bool) {
	n := uint64(0)
	for _, c := range digits {
		d := uint64(c - '0')
		if n > (math.MaxUint64-d)/10 {
			return 0, false
		}
		n = 10*n + d
	}
	return n, true
}
