package space

import (
	"larder/api"
	"larder/word"
)

const (
	keyCost  = 24
	textMore = 2 // beside the words of its bytes
)

// rate is what a kind of value costs: as a whole, for each element, and how often each text in it counts.
type rate struct{ whole, each, texts int }

// rates stand by the kinds of values.
var rates = [...]rate{
	api.ValText: {0, 0, 1},
	api.ValList: {8, 6, 1},
	api.ValHash: {40, 16, 1},
	api.ValSet:  {40, 16, 1},
	api.ValRank: {96, 40, 2},
}

// cost tells what a key with that value costs; 0, if it is none.
func cost(key string, v api.Value) int {
	if v.Kind == api.ValNone {
		return 0
	}
	r := rates[v.Kind]
	sum := keyCost + textCost(len(key)) + r.whole + r.each*elements(v)
	for _, text := range texts(v) {
		sum += r.texts * textCost(len(text))
	}
	return sum
}

func textCost(n int) int { return textMore + word.Words(n) }
