package text

import (
	"larder/api"
	"larder/word"
)

const wordBits = 64

// field is a number that lies in some bits of a text.
type field struct {
	signed   bool
	at, bits int // its first bit, and how many there are
}

// end tells how many bytes a text must have to hold the field.
func (f field) end() int { return (f.at + f.bits + byteBits - 1) / byteBits }

// number tells the number of the field's type that the lowest bits of a word are.
func (f field) number(w uint64) int64 {
	above := wordBits - f.bits
	if f.signed {
		return int64(w<<above) >> above
	}
	return int64(w << above >> above)
}

// greatest and least tell the bounds of the field's type.
func (f field) greatest() int64 {
	bits := f.bits
	if f.signed {
		bits--
	}
	return int64(uint64(1)<<bits - 1)
}

func (f field) least() int64 {
	if f.signed {
		return -f.greatest() - 1
	}
	return 0
}

// get tells the number that is in the field.
func (f field) get(text []byte) int64 {
	w := uint64(0)
	for i := range f.bits {
		w = w<<1 | uint64(bitAt(text, f.at+i))
	}
	return f.number(w)
}

// put lays a number of the field's type into it.
func (f field) put(text []byte, n int64) {
	for i := range f.bits {
		putBit(text, f.at+i, int(n>>(f.bits-1-i))&1)
	}
}

// sum tells what is laid into the field for the sum of a, which is of its type, and n; false: nothing is.
func (f field) sum(a, n int64, overflow string) (int64, bool) {
	// As words the ways from a to the two bounds are exact, whatever their size.
	above := n > 0 && uint64(n) > uint64(f.greatest())-uint64(a)
	below := n < 0 && -uint64(n) > uint64(a)-uint64(f.least())
	switch {
	case !above && !below:
		return a + n, true
	case overflow == "FAIL":
		return 0, false
	case overflow == "WRAP":
		return f.number(uint64(a) + uint64(n)), true
	case above:
		return f.greatest(), true
	}
	return f.least(), true
}

// fieldType reads a field's type; where the field lies is read behind it.
func (c *call) fieldType() field {
	b := c.Next()
	c.Want(len(b) > 0, api.BadField)
	most := int64(0)
	switch b[0] {
	case 'i':
		most = wordBits
	case 'u':
		most = wordBits - 1
	}
	n, e := word.Int(b[1:])
	c.Want(e == api.OK && n >= 1 && n <= most, api.BadField)
	return field{signed: b[0] == 'i', bits: int(n)}
}

// fieldAt reads where a field lies.
func (c *call) fieldAt(f field) field {
	b, step := c.Next(), int64(1)
	if len(b) > 0 && b[0] == '#' {
		b, step = b[1:], int64(f.bits)
	}
	n := c.Integer(b)
	// A number behind a text's last bit is no less behind it times the field's bits; what is left can be multiplied.
	c.Want(n >= 0 && n < maxBits, api.BadRange)
	c.Want(n*step+int64(f.bits) <= maxBits, api.BadRange)
	f.at = int(n * step)
	return f
}
