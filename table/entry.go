package table

import (
	"iter"
	"math/bits"

	"larder/api"
	"larder/blob"
)

// The fields of a table's object.
const (
	tableArray = iota
	tableOld   // 0: no rehash is on
	tableSeed
	tableCount
	tableMoved

	tableRefs = tableSeed
	tableRaws = tableMoved + 1 - tableRefs
)

// The fields of an entry.
const (
	entryNext = iota
	entryKey
	entryValue
	entryHash
	entryA
	entryB

	entryRefs = entryHash
	entryRaws = entryB + 1 - entryRefs
)

const leastBuckets = 4

// link is a field that leads to an entry: a bucket of an array, or the entry ahead.
type link struct {
	ref   uint64
	field int
}

// field tells a field of an object of the table. What an open table leads to is there, so that the heap has nothing to refuse; of no object (ref 0) it is 0.
func (t *Table) field(ref uint64, i int) uint64 {
	v, _ := t.heap.Get(ref, i)
	return v
}

// get tells a field of the table's own object; 0, if the table is closed.
func (t *Table) get(i int) uint64 { return t.field(t.Ref(), i) }

func (t *Table) set(i int, v uint64) { t.heap.Set(t.Ref(), i, v) }

// buckets tells how many buckets an array has; 0, if there is none.
func (t *Table) buckets(array uint64) int {
	_, refs, _, _ := t.heap.Object(array)
	return refs
}

// bucketOf tells the bucket of a hash where there are so many, a power of two.
func bucketOf(hash uint64, buckets int) int {
	return int(hash >> (64 - bits.TrailingZeros(uint(buckets))))
}

// head tells the bucket at which a hash's entries hang. It is but one, also while a rehash is on: that of the old array, till it has been moved.
func (t *Table) head(hash uint64) link {
	if old := t.get(tableOld); old != 0 {
		if i := bucketOf(hash, t.buckets(old)); i >= int(t.get(tableMoved)) {
			return link{old, i}
		}
	}
	return t.newHead(hash)
}

// newHead tells the bucket of a hash in the array that stays.
func (t *Table) newHead(hash uint64) link {
	array := t.get(tableArray)
	return link{array, bucketOf(hash, t.buckets(array))}
}

// chain goes through a bucket's entries; beside each stands what leads to it. The loop's body may hang the entry that it is told elsewhere.
func (t *Table) chain(head link) iter.Seq2[link, uint64] {
	return func(yield func(link, uint64) bool) {
		at, entry := head, t.field(head.ref, head.field)
		for entry != 0 {
			next := t.field(entry, entryNext)
			if !yield(at, entry) {
				return
			}
			at, entry = link{entry, entryNext}, next
		}
	}
}

// find looks for a key's entry and for what leads to it; the entry is 0, if the key is not there.
func (t *Table) find(key []byte) (link, uint64) {
	if len(key) > api.MaxText {
		return link{}, 0
	}
	hash := t.hash(key)
	for at, entry := range t.chain(t.head(hash)) {
		if t.field(entry, entryHash) == hash && t.equal(entry, key) {
			return at, entry
		}
	}
	return link{}, 0
}

// equal tells whether an entry's key is that one.
func (t *Table) equal(entry uint64, key []byte) bool {
	order, e := blob.Compare(t.heap, t.field(entry, entryKey), key)
	return e == api.OK && order == 0
}

// hang makes an entry the first of a bucket.
func (t *Table) hang(entry uint64, head link) {
	t.heap.Set(entry, entryNext, t.field(head.ref, head.field))
	t.heap.Set(head.ref, head.field, entry)
}

// lay makes an entry of a key; it has no values yet, and nothing leads to it.
func (t *Table) lay(key []byte) (uint64, api.Errno) {
	text, e := blob.New(t.heap, key)
	if e != api.OK {
		return 0, e
	}
	// The entry's Alloc may collect, and nothing leads to the blob so far.
	held, e := t.heap.Root(text)
	if e != api.OK {
		return 0, e
	}
	defer t.heap.Drop(held)
	entry, e := t.heap.Alloc(api.KindEntry, entryRefs, entryRaws)
	if e != api.OK {
		return 0, e
	}
	text, e = t.heap.At(held)
	if e != api.OK {
		return 0, e
	}
	t.heap.Set(entry, entryHash, t.hash(key))
	return entry, t.heap.Set(entry, entryKey, text)
}

// fill lays an entry's values.
func (t *Table) fill(entry, ref, a, b uint64) {
	t.heap.Set(entry, entryValue, ref)
	t.heap.Set(entry, entryA, a)
	t.heap.Set(entry, entryB, b)
}
