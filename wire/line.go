package wire

import "larder/api"

// Line takes an inline line apart.
func Line(b []byte) ([][]byte, api.Errno) {
	if len(b) > api.MaxLine {
		return nil, api.ErrWireLine
	}
	var words [][]byte
words:
	for i := skipBlanks(b, 0); i < len(b); i = skipBlanks(b, i) {
		var w []byte
		for ; i < len(b) && !blank(b[i]); i++ {
			if b[i] != '"' && b[i] != '\'' {
				w = append(w, b[i])
				continue
			}
			said, n := quoted(b[i:])
			i += n
			if n == 0 || i < len(b) && !blank(b[i]) {
				return nil, api.ErrWireQuote
			}
			words = append(words, append(w, said...))
			continue words
		}
		words = append(words, w)
	}
	// The quotes are asked ahead of the number of words, so the whole line has been read by now.
	if len(words) > api.MaxArgs {
		return nil, api.ErrWireLine
	}
	return words, api.OK
}

// blank tells whether c may stand between words.
func blank(c byte) bool {
	return c == ' ' || '\t' <= c && c <= '\r'
}

// skipBlanks tells where the first byte from i on stands that is no blank.
func skipBlanks(b []byte, i int) int {
	for i < len(b) && blank(b[i]) {
		i++
	}
	return i
}

// quoted reads the quoted part with which b begins: what it says, and how many bytes it has; 0, if it has no end.
func quoted(b []byte) ([]byte, int) {
	var said []byte
	for i := 1; i < len(b); {
		if b[i] == b[0] {
			return said, i + 1
		}
		c, n := quotedByte(b[i:], b[0])
		said = append(said, c)
		i += n
	}
	return nil, 0
}

// quotedByte reads the byte that b begins with inside such quotes: what it says, and by how many bytes.
func quotedByte(b []byte, quote byte) (byte, int) {
	switch {
	case b[0] != '\\' || len(b) == 1:
		return b[0], 1
	case quote == '"':
		return escaped(b)
	case b[1] == quote:
		return quote, 2
	}
	return b[0], 1
}

// escaped reads what b, a backslash and more, says inside double quotes: the byte, and by how many bytes.
func escaped(b []byte) (byte, int) {
	switch b[1] {
	case 'x':
		if c, ok := hexByte(b[2:]); ok {
			return c, 4
		}
	case 'n':
		return '\n', 2
	case 'r':
		return '\r', 2
	case 't':
		return '\t', 2
	case 'b':
		return '\b', 2
	case 'a':
		return '\a', 2
	}
	return b[1], 2
}

// hexByte reads the two hexadecimal digits that b begins with, if there are two.
func hexByte(b []byte) (byte, bool) {
	if len(b) < 2 {
		return 0, false
	}
	high, ok := hexDigit(b[0])
	low, also := hexDigit(b[1])
	return high<<4 | low, ok && also
}

// hexDigit reads a hexadecimal digit, small or capital.
func hexDigit(c byte) (byte, bool) {
	switch {
	case '0' <= c && c <= '9':
		return c - '0', true
	case 'a' <= c && c <= 'f':
		return c - 'a' + 10, true
	case 'A' <= c && c <= 'F':
		return c - 'A' + 10, true
	}
	return 0, false
}
