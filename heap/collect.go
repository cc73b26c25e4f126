package heap

// collection is the collector at work: it copies what is live out of the half into the spare one.
type collection struct {
	heap *Heap
	next int      // where the first copied object begins that has not been looked at
	line []*block // large objects that were reached and have not been looked at
}

// Collect keeps what the handles lead to, and nothing else.
func (h *Heap) Collect() {
	h.collect()
	h.fit(0)
}

func (h *Heap) collect() {
	h.collections++
	c := collection{heap: h, next: firstPlace}
	for n, ref := range h.handles.all() {
		h.handles.set(n, c.move(ref))
	}
	for c.step() {
	}
	h.half, h.spare = h.spare, h.half
	h.spare.Clear()
	h.sweep()
	h.kept = h.large
	h.moved = h.half.Used() - 1
}

// step looks at the object whose turn it is; false, if there is none left.
func (c *collection) step() bool {
	if c.next < c.heap.spare.Used() {
		c.next += c.look(c.heap.spare, c.next)
		return true
	}
	if len(c.line) > 0 {
		first := c.line[0]
		c.line = c.line[1:]
		c.look(first, firstPlace)
		return true
	}
	return false
}

// look moves the refs of an object and tells its size. The holder refuses none of this: an object begins there.
func (c *collection) look(in holder, at int) int {
	_, refs, raws, _ := in.Object(at)
	for i := range refs {
		ref, _ := in.Get(at, i)
		in.Set(at, i, c.move(ref))
	}
	return 1 + refs + raws
}

// move sees to it that what the ref leads to is kept, and tells the ref that leads there from now on.
func (c *collection) move(ref uint64) uint64 {
	if ref == 0 {
		return 0
	}
	if isLarge(ref) {
		c.reach(slotOf(ref))
		return ref
	}
	// The spare half is as great as the half: what lies in the one has room in the other.
	to, _ := c.heap.spare.Take(c.heap.half, int(ref))
	return uint64(to)
}

func (c *collection) reach(slot int) {
	b, found := c.heap.blocks.get(slot)
	if !found || b.reached == c.heap.collections {
		return
	}
	b.reached = c.heap.collections
	c.line = append(c.line, b)
}

// sweep lets go of the blocks that this collection has not reached.
func (h *Heap) sweep() {
	for slot, b := range h.blocks.all() {
		if b.reached != h.collections {
			h.large -= b.Size()
			h.blocks.drop(slot)
		}
	}
}
