package text

import (
	"larder/api"
	"larder/match"
)

// combineTexts: BITOP op dest key ..
func (c *call) combineTexts() api.Reply {
	op := match.Fold(c.Next())
	dest := c.Next()
	var result []byte
	switch op {
	case "NOT":
		c.Want(c.Left() == 1, api.BadSyntax)
		fallthrough
	case "AND", "OR", "XOR":
		result = combine(op, c.texts()...)
	default:
		c.Space.Fail(api.BadSyntax)
	}
	if len(result) == 0 {
		c.Space.Remove(c.DB, dest)
	} else {
		c.lay(dest, result, 0)
	}
	return api.Number(int64(len(result)))
}

// texts tells the texts of all keys that are left to read.
func (c *call) texts() [][]byte {
	var found [][]byte
	for c.Left() > 0 {
		text, _ := c.text(c.Next())
		found = append(found, text)
	}
	return found
}

// combine tells texts combined bit by bit, each made as long as the longest. There is one at least; it may write into the first.
func combine(op string, texts ...[]byte) []byte {
	long := 0
	for _, text := range texts {
		long = max(long, len(text))
	}
	result := longer(texts[0], long)
	for _, text := range texts[1:] {
		for i, b := range longer(text, long) {
			result[i] = combineBytes(op, result[i], b)
		}
	}
	if op == "NOT" {
		for i := range result {
			result[i] = ^result[i]
		}
	}
	return result
}

func combineBytes(op string, a, b byte) byte {
	switch op {
	case "AND":
		return a & b
	case "OR":
		return a | b
	}
	return a ^ b
}
