package table

import "larder/api"

// stepBuckets is how many old buckets a step of a rehash moves.
const stepBuckets = 16

// Put lays a ref and two words under a key; it may collect.
func (t *Table) Put(key []byte, ref, a, b uint64) (bool, api.Errno) {
	if t.handle == 0 {
		return false, api.ErrTableShut
	}
	if len(key) > api.MaxText {
		return false, api.ErrTableKey
	}
	// Held till the end: laying the key may move what the ref leads to. The heap refuses a ref at which nothing begins.
	held, e := t.heap.Root(ref)
	if e != api.OK {
		return false, e
	}
	defer t.heap.Drop(held)
	t.Step()
	if _, entry := t.find(key); entry != 0 {
		t.fill(entry, ref, a, b)
		return false, api.OK
	}
	entry, e := t.lay(key)
	if e != api.OK {
		return false, e
	}
	ref, e = t.heap.At(held)
	if e != api.OK {
		return false, e
	}
	t.fill(entry, ref, a, b)
	t.hang(entry, t.head(t.field(entry, entryHash)))
	t.set(tableCount, uint64(t.Len()+1))
	t.grow()
	return true, api.OK
}

// Delete takes a key away; it may collect.
func (t *Table) Delete(key []byte) api.Errno {
	if t.handle == 0 {
		return api.ErrTableShut
	}
	t.Step()
	at, entry := t.find(key)
	if entry == 0 {
		return api.ErrTableNone
	}
	t.heap.Set(at.ref, at.field, t.field(entry, entryNext))
	t.set(tableCount, uint64(t.Len()-1))
	t.shrink()
	return api.OK
}

// grow begins a rehash to twice as many buckets, if there are too few.
func (t *Table) grow() {
	if s := t.Shape(); s.Old == 0 && s.Len > s.Buckets {
		t.begin(2 * s.Buckets)
	}
}

// shrink begins a rehash to half as many buckets, if there are too many.
func (t *Table) shrink() {
	if s := t.Shape(); s.Old == 0 && s.Buckets > leastBuckets && 4*s.Len < s.Buckets {
		t.begin(s.Buckets / 2)
	}
}

// begin begins a rehash. Without room for the array there is none for now: the table is right all the same.
func (t *Table) begin(buckets int) {
	array, e := t.heap.Alloc(api.KindBuckets, buckets, 0)
	if e != api.OK {
		return
	}
	t.set(tableOld, t.get(tableArray))
	t.set(tableArray, array)
}

// Step goes one step on with a rehash, if one is under way.
func (t *Table) Step() bool {
	old := t.get(tableOld)
	if old == 0 {
		return false
	}
	moved, all := int(t.get(tableMoved)), t.buckets(old)
	end := min(moved+stepBuckets, all)
	for i := moved; i < end; i++ {
		t.move(link{old, i})
	}
	if end == all {
		t.set(tableOld, 0)
		end = 0
	}
	t.set(tableMoved, uint64(end))
	return true
}

// move hangs all entries of an old bucket at their buckets of the new array.
func (t *Table) move(head link) {
	for _, entry := range t.chain(head) {
		t.hang(entry, t.newHead(t.field(entry, entryHash)))
	}
	t.heap.Set(head.ref, head.field, 0)
}
