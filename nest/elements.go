package nest

import (
	"larder/api"
	"larder/blob"
	"larder/heap"
	"larder/table"
)

// elements is what a hash or a set holds on the heap, by their names: the fields, or the members. The zero elements are none.
type elements struct {
	table *table.Table
	heap  *heap.Heap
}

func (l elements) size() int {
	if l.table == nil {
		return 0
	}
	return l.table.Len()
}

// names tells them sorted.
func (l elements) names() [][]byte {
	if l.table == nil {
		return nil
	}
	return l.table.Keys()
}

// scan tells some of them in hash order, from a cursor on, and the cursor to go on from.
func (l elements) scan(cursor uint64, n int) (uint64, [][]byte) {
	if l.table == nil {
		return 0, nil
	}
	return l.table.Scan(cursor, n)
}

// find tells the ref of the blob that belongs to a name, if there is one, and whether the name is there.
func (l elements) find(name []byte) (uint64, bool) {
	if l.table == nil {
		return 0, false
	}
	ref, _, _, e := l.table.Get(name)
	return ref, e == api.OK
}

func (l elements) has(name []byte) bool {
	_, there := l.find(name)
	return there
}

// value tells the value of a field, and whether the field is there.
func (l elements) value(field []byte) ([]byte, bool) {
	ref, there := l.find(field)
	if !there {
		return nil, false
	}
	b, _ := blob.Read(l.heap, ref)
	return b, true
}

// take takes a name away, and tells whether it was there.
func (l elements) take(name []byte) bool {
	return l.table != nil && l.table.Delete(name) == api.OK
}

// takeLeast takes so many of the least names away, or all there are, and tells them sorted.
func (l elements) takeLeast(n int64) [][]byte {
	found := l.names()
	found = found[:min(n, int64(len(found)))]
	for _, name := range found {
		l.take(name)
	}
	return found
}
