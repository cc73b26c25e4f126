package record

import (
	"math/bits"

	"larder/api"
)

// unsigned are the numbers that stand in records and snapshots: each in as many bytes as its type has, the highest first.
type unsigned interface{ uint8 | uint32 | uint64 }

// sizeOf tells how many bytes a number takes.
func sizeOf[T unsigned]() int { return bits.Len64(uint64(^T(0))) / 8 }

// bitOf tells the lowest bit of a number that byte i of its size bytes holds.
func bitOf(i, size int) int { return 8 * (size - 1 - i) }

// addNumber writes a number behind b.
func addNumber[T unsigned](b []byte, n T) []byte {
	size := sizeOf[T]()
	for i := range size {
		b = append(b, byte(n>>bitOf(i, size)))
	}
	return b
}

// addText writes a text behind b: how long it is, and its bytes.
func addText(b, text []byte) []byte {
	return append(addNumber(b, uint32(len(text))), text...)
}

// addList writes behind b how many elements there are, and each of them by add.
func addList[T any](b []byte, elements []T, add func([]byte, T) []byte) []byte {
	b = addNumber(b, uint32(len(elements)))
	for _, one := range elements {
		b = add(b, one)
	}
	return b
}

// reader goes through bytes. Once they are not what they must be it is wrong for good, has nothing left and tells zeros: so what is read need be asked about only in the end.
type reader struct {
	rest  []byte
	wrong bool
}

// want makes the reader wrong, unless something holds that must.
func (r *reader) want(holds bool) {
	if !holds {
		r.rest, r.wrong = nil, true
	}
}

// take reads so many bytes; none, if there are fewer. They are a piece of what is read, not new memory.
func (r *reader) take(size int) []byte {
	r.want(size <= len(r.rest))
	if r.wrong {
		return nil
	}
	taken := r.rest[:size]
	r.rest = r.rest[size:]
	return taken
}

// number reads a number.
func number[T unsigned](r *reader) T {
	size := sizeOf[T]()
	b := r.take(size)
	var n T
	for i := range len(b) {
		n |= T(b[i]) << bitOf(i, size)
	}
	return n
}

// text reads a text; one that is too long is none.
func (r *reader) text() []byte {
	size := number[uint32](r)
	r.want(size <= api.MaxText)
	if r.wrong {
		return nil
	}
	return r.take(int(size))
}

// list reads how many elements there are, and each of them by one. It grows with what is there: the number may tell of far more than comes.
func list[T any](r *reader, one func(*reader) T) []T {
	var found []T
	for range number[uint32](r) {
		if r.wrong {
			return nil
		}
		found = append(found, one(r))
	}
	return found
}
