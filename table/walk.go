package table

import (
	"bytes"
	"cmp"
	"iter"
	"slices"

	"larder/blob"
)

// item is what there is to tell of an entry.
type item struct {
	hash uint64
	key  []byte
}

func keyOf(i item) []byte { return i.key }

// inHashOrder tells how two items stand to each other.
func inHashOrder(a, b item) int {
	return cmp.Or(cmp.Compare(a.hash, b.hash), bytes.Compare(a.key, b.key))
}

// gather makes a list of what an iterator gives: of each thing what pick makes of it.
func gather[T, V any](things iter.Seq[T], pick func(T) V) []V {
	var found []V
	for thing := range things {
		found = append(found, pick(thing))
	}
	return found
}

// sorted brings a list into an order and tells it.
func sorted[V any](list []V, order func(a, b V) int) []V {
	slices.SortFunc(list, order)
	return list
}

// Scan tells some keys in hash order, and where to go on.
func (t *Table) Scan(cursor uint64, n int) (uint64, [][]byte) {
	var keys [][]byte
	last := uint64(0)
	for i := range t.from(cursor) {
		// Keys of one hash are not parted: a cursor can't tell them from each other.
		if len(keys) >= max(n, 1) && i.hash != last {
			return i.hash, keys
		}
		keys, last = append(keys, i.key), i.hash
	}
	return 0, keys
}

// Keys tells all keys, sorted by their bytes.
func (t *Table) Keys() [][]byte {
	return sorted(gather(t.from(0), keyOf), bytes.Compare)
}

// All goes through the keys in hash order, as they are when it begins.
func (t *Table) All() iter.Seq[[]byte] {
	return func(yield func([]byte) bool) {
		// Gathered ahead of the first one that is told: the loop's body may change the table, or close it.
		for _, key := range gather(t.from(0), keyOf) {
			if !yield(key) {
				return
			}
		}
	}
}

// from goes through what has a hash of at least cursor, in hash order: the top bits pick the bucket, so that part by part the hashes come in order, and only a part is to be sorted. The loop's body leaves the heap alone.
func (t *Table) from(cursor uint64) iter.Seq[item] {
	return func(yield func(item) bool) {
		parts := t.parts()
		if parts == 0 {
			return
		}
		for part := bucketOf(cursor, parts); part < parts; part++ {
			for _, i := range sorted(gather(t.within(part, parts), t.item), inHashOrder) {
				if i.hash >= cursor && !yield(i) {
					return
				}
			}
		}
	}
}

// parts tells into how many parts the arrays can be cut between buckets, both at the same hashes; 0, if the table is closed.
func (t *Table) parts() int {
	s := t.Shape()
	if s.Old == 0 {
		return s.Buckets
	}
	return min(s.Buckets, s.Old)
}

// within goes through the entries of one of so many equal parts, of the old array and of the new one.
func (t *Table) within(part, parts int) iter.Seq[uint64] {
	return func(yield func(uint64) bool) {
		for _, array := range []uint64{t.get(tableOld), t.get(tableArray)} {
			width := t.buckets(array) / parts
			for i := range width {
				for _, entry := range t.chain(link{array, part*width + i}) {
					if !yield(entry) {
						return
					}
				}
			}
		}
	}
}

// item tells an entry's hash and key.
func (t *Table) item(entry uint64) item {
	key, _ := blob.Read(t.heap, t.field(entry, entryKey))
	return item{t.field(entry, entryHash), key}
}
