package match

// Kinds of pieces.
const (
	anyText = 1 + iota
	anyByte
	oneOf
)

// piece: what a part of a pattern fits; set belongs to oneOf.
type piece struct {
	kind int
	set  class
}

// pieces takes a pattern apart, once for all that is tried of it; false: one piece fits nothing, so no text meets the pattern.
func pieces(pattern []byte) ([]piece, bool) {
	row := make([]piece, 0, len(pattern))
	for i := 0; i < len(pattern); {
		b := pattern[i]
		i++
		switch b {
		case '*':
			row = append(row, piece{kind: anyText})
		case '[':
			var c class
			c, i = members(pattern, i)
			if c == (class{}) {
				return nil, false
			}
			if c != everything() {
				row = append(row, piece{kind: oneOf, set: c})
				continue
			}
			fallthrough
		case '?':
			row = append(row, piece{kind: anyByte})
		case '\\':
			if i < len(pattern) {
				b = pattern[i]
				i++
			}
			fallthrough
		default:
			row = append(row, piece{kind: oneOf, set: class{}.with(b, b)})
		}
	}
	return row, true
}
