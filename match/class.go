package match

// wordBits: how many bytes a word of a class tells of.
const wordBits = 64

// class: a set of bytes, a bit a byte.
type class [256 / wordBits]uint64

// everything tells the class of all bytes.
func everything() class {
	return class{}.others()
}

// with tells the class with the bytes between two ends, and both ends, whichever is the greater.
func (c class) with(a, b byte) class {
	// Counted in int: a byte would wrap behind 255.
	for i := int(min(a, b)); i <= int(max(a, b)); i++ {
		c[i/wordBits] |= 1 << (i % wordBits)
	}
	return c
}

// others tells the class of the bytes that are not in c.
func (c class) others() class {
	for i := range c {
		c[i] = ^c[i]
	}
	return c
}

// has tells whether a byte is in c.
func (c class) has(b byte) bool {
	return c[b/wordBits]>>(b%wordBits)&1 == 1
}

// members reads a class from behind its '[' at i: what it fits, and where the pattern goes on behind it.
func members(pattern []byte, i int) (class, int) {
	excepted := i < len(pattern) && pattern[i] == '^'
	if excepted {
		i++
	}
	var c class
	for i < len(pattern) && pattern[i] != ']' {
		var a, b byte
		a, b, i = member(pattern, i)
		c = c.with(a, b)
	}
	if excepted {
		c = c.others()
	}
	// A class without its ']' ends with the pattern.
	return c, min(i+1, len(pattern))
}

// member reads the member of a class that begins at i: its two ends, the same for a single byte, and where the next begins.
func member(pattern []byte, i int) (a, b byte, next int) {
	a, i = meant(pattern, i)
	if i+1 < len(pattern) && pattern[i] == '-' && pattern[i+1] != ']' {
		b, i = meant(pattern, i+1)
		return a, b, i
	}
	return a, a, i
}

// meant reads the byte of a class that stands at i, or behind a backslash at i, and tells where the next stands.
func meant(pattern []byte, i int) (byte, int) {
	if pattern[i] == '\\' && i+1 < len(pattern) {
		i++
	}
	return pattern[i], i + 1
}
