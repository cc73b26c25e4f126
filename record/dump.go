package record

import (
	"sync"

	"larder/api"
	"larder/word"
)

// opening is what every snapshot begins with.
const opening = "LARDER01"

// snapshot writes a state.
func (t state) snapshot() []byte {
	b := addNumber([]byte(opening), uint64(t.seq))
	b = addNumber(b, t.clock)
	for _, part := range t.parts() {
		b = append(b, part...)
	}
	return addNumber(b, word.Sum(b))
}

// parts writes the keys of each database, all at the same time.
func (t state) parts() [][]byte {
	written := make([][]byte, api.MaxDB)
	var writers sync.WaitGroup
	for db := range api.MaxDB {
		writers.Add(1)
		go func() {
			defer writers.Done()
			written[db] = addList(nil, t.keys[db], addHolding)
		}()
	}
	writers.Wait()
	return written
}

func addHolding(b []byte, h holding) []byte {
	b = addText(b, h.key)
	b = addNumber(b, h.deadline)
	b = addNumber(b, uint8(h.value.Kind))
	switch h.value.Kind {
	case api.ValText:
		b = addText(b, h.value.Text)
	case api.ValList, api.ValSet:
		b = addList(b, h.value.List, addText)
	case api.ValHash:
		b = addList(b, h.value.Pairs, addPair)
	case api.ValRank:
		b = addList(b, h.value.Ranked, addScored)
	}
	return b
}

func addPair(b []byte, p api.Pair) []byte {
	return addText(addText(b, p.Field), p.Value)
}

func addScored(b []byte, m api.Scored) []byte {
	return addText(addNumber(b, uint64(m.Score)), m.Member)
}
