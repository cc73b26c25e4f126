package board

import (
	"bytes"
	"cmp"
	"slices"

	"larder/api"
	"larder/word"
)

// scale is a way of comparing elements by their weights.
type scale interface {
	// weigh tells the weight of the element at a place, for which this text was found, or nothing.
	weigh(place int, text []byte, found bool) weight
	compare(a, b weight) int
}

// weight is what an element is compared by; which part of it counts the scale knows.
type weight struct {
	place  int
	number int64
	text   []byte
}

// byNumber compares weights as integers; nothing is 0.
type byNumber struct{}

func (byNumber) weigh(_ int, text []byte, found bool) weight {
	if !found {
		return weight{}
	}
	n, e := word.Int(text)
	if e != api.OK {
		panic(api.BadInt)
	}
	return weight{number: n}
}

func (byNumber) compare(a, b weight) int { return cmp.Compare(a.number, b.number) }

// byText compares weights by their bytes; nothing is the empty text.
type byText struct{}

func (byText) weigh(_ int, text []byte, _ bool) weight { return weight{text: text} }

func (byText) compare(a, b weight) int { return bytes.Compare(a.text, b.text) }

// asTheyStand leaves elements in the order in which they came.
type asTheyStand struct{}

func (asTheyStand) weigh(place int, _ []byte, _ bool) weight { return weight{place: place} }

func (asTheyStand) compare(a, b weight) int { return cmp.Compare(a.place, b.place) }

// weighed is an element with its weight.
type weighed struct {
	element []byte
	weight  weight
}

// arranged tells elements in the order of a scale, those of one weight by their bytes; find finds what an element weighs.
func arranged(elements [][]byte, s scale, find func(element []byte) ([]byte, bool)) [][]byte {
	list := make([]weighed, 0, len(elements))
	for place, element := range elements {
		text, found := find(element)
		list = append(list, weighed{element, s.weigh(place, text, found)})
	}
	slices.SortFunc(list, func(a, b weighed) int {
		return cmp.Or(s.compare(a.weight, b.weight), bytes.Compare(a.element, b.element))
	})
	var sorted [][]byte
	for _, w := range list {
		sorted = append(sorted, w.element)
	}
	return sorted
}
