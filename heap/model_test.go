package heap_test

import (
	"math/rand"
	"slices"
	"testing"

	"larder/api"
	"larder/heap"
	"larder/word"
)

// thing is an object as the chapter has it, in plain memory.
type thing struct {
	kind  int
	refs  []*thing
	raws  []uint64
	place int // a small one's
	slot  int // a large one's
}

func (o *thing) size() int     { return 1 + len(o.refs) + len(o.raws) }
func (o *thing) isLarge() bool { return o.size() > api.LargeWords }

func (o *thing) ref() uint64 {
	switch {
	case o == nil:
		return 0
	case o.isLarge():
		return slot0 + uint64(o.slot)
	}
	return uint64(o.place)
}

// model is a heap that goes by the chapter's text, step by step.
type model struct {
	limit, half int
	small       []*thing // in their order
	slots       []*thing // nil: free
	handles     []*thing
	inUse       []bool
	since, kept int
	moved       int
	collections int
	resizes     int
}

func (m *model) used() int {
	n := 1
	for _, o := range m.small {
		n += o.size()
	}
	return n
}

func (m *model) large() int {
	n := 0
	for _, o := range m.slots {
		if o != nil {
			n += 1 + o.size()
		}
	}
	return n
}

func (m *model) stats() api.HeapStats {
	s := api.HeapStats{Limit: m.limit, Half: m.half, Used: m.used(), Large: m.large(), Collections: m.collections, Resizes: m.resizes, Moved: m.moved}
	for _, o := range m.slots {
		if o != nil {
			s.Slots++
		}
	}
	for _, used := range m.inUse {
		if used {
			s.Roots++
		}
	}
	return s
}

func (m *model) image() []uint64 {
	l := []uint64{0}
	for _, o := range m.small {
		h, _ := word.Head(o.kind, len(o.refs), len(o.raws))
		l = append(l, h)
		for _, to := range o.refs {
			l = append(l, to.ref())
		}
		l = append(l, o.raws...)
	}
	return l
}

// find tells the object that begins at a ref; nil, if there is none.
func (m *model) find(ref uint64) *thing {
	for _, o := range slices.Concat(m.small, m.slots) {
		if o != nil && o.ref() == ref {
			return o
		}
	}
	return nil
}

// reached tells what is live: the small ones in the order of their copying, and all.
func (m *model) reached() ([]*thing, map[*thing]bool) {
	var copied, line []*thing
	seen := map[*thing]bool{}
	move := func(o *thing) {
		if o == nil || seen[o] {
			return
		}
		seen[o] = true
		if o.isLarge() {
			line = append(line, o)
		} else {
			copied = append(copied, o)
		}
	}
	for n, o := range m.handles {
		if m.inUse[n] {
			move(o)
		}
	}
	for looked := 0; looked < len(copied) || len(line) > 0; {
		var next *thing
		if looked < len(copied) {
			next = copied[looked]
			looked++
		} else {
			next, line = line[0], line[1:]
		}
		for _, o := range next.refs {
			move(o)
		}
	}
	return copied, seen
}

func (m *model) collect() {
	copied, seen := m.reached()
	m.small = copied
	at := 1
	for _, o := range m.small {
		o.place = at
		at += o.size()
	}
	for slot, o := range m.slots {
		if !seen[o] {
			m.slots[slot] = nil
		}
	}
	m.collections++
	m.since, m.kept, m.moved = 0, m.large(), m.used()-1
}

func (m *model) become(half int) {
	if half != m.half {
		m.half = half
		m.resizes++
	}
}

func (m *model) fit(s int) {
	u, want := m.used()+s, api.MinHalf
	for 4*u > 3*want {
		want *= 2
	}
	if 4*u > 3*m.half {
		if n := min(want, (m.limit-m.large())/2); n > m.half {
			m.become(n)
		}
	} else if m.half > api.MinHalf && 8*u < m.half {
		m.become(want)
	}
}

func (m *model) alloc(kind, refs, raws int) (*thing, api.Errno) {
	if kind < 1 || kind > 255 || refs < 0 || raws < 0 || refs > api.MaxField || raws > api.MaxField {
		return nil, api.ErrHeapShape
	}
	o := &thing{kind: kind, refs: make([]*thing, refs), raws: make([]uint64, raws)}
	if o.isLarge() {
		return m.allocLarge(o)
	}
	if m.used()+o.size() > m.half {
		m.collect()
		m.fit(o.size())
	}
	if m.used()+o.size() > m.half {
		return nil, api.ErrHeapFull
	}
	o.place = m.used()
	m.small = append(m.small, o)
	return o, api.OK
}

func (m *model) allocLarge(o *thing) (*thing, api.Errno) {
	b := o.size() + 1
	if 2*m.half+m.large()+b > m.limit || m.since+b > m.half+m.kept {
		m.collect()
		m.fit(0)
	}
	if 2*m.half+m.large()+b > m.limit {
		left := m.limit - m.large() - b
		if left < 0 || left/2 < api.MinHalf || left/2 < m.used() {
			return nil, api.ErrHeapFull
		}
		m.become(left / 2)
	}
	o.slot = slices.Index(m.slots, nil)
	if o.slot < 0 {
		o.slot = len(m.slots)
		m.slots = append(m.slots, nil)
	}
	m.slots[o.slot] = o
	m.since += b
	return o, api.OK
}

func (m *model) resize(half int) api.Errno {
	if half < api.MinHalf || half > api.MaxLimit/2 {
		return api.ErrHeapHalf
	}
	m.collect()
	if m.used() > half || 2*half+m.large() > m.limit {
		return api.ErrHeapFull
	}
	m.become(half)
	return api.OK
}

// isFull tells by P3.9 alone whether an object of that size has no room.
func (m *model) isFull(size int) bool {
	_, seen := m.reached()
	ls, ll := 1, 0
	for o := range seen {
		if o.isLarge() {
			ll += 1 + o.size()
		} else {
			ls += o.size()
		}
	}
	if size > api.LargeWords {
		return ll+size+1+2*max(api.MinHalf, ls) > m.limit
	}
	return ls+size > (m.limit-ll)/2
}

// play makes drawn calls on a heap and on the model.
type play struct {
	t *testing.T
	r *rand.Rand
	h *heap.Heap
	m *model
}

// ref draws a number: mostly one at which an object begins.
func (p *play) ref() uint64 {
	all := slices.Concat(p.m.small, p.m.slots)
	if len(all) == 0 || p.r.Intn(12) == 0 {
		return []uint64{0, 1, 2, 3, 5, 60, slot0, slot0 + 1, slot0 + 9, p.r.Uint64()}[p.r.Intn(10)]
	}
	return all[p.r.Intn(len(all))].ref()
}

func (p *play) handle() int { return p.r.Intn(len(p.m.handles)+3) - 1 }

func (p *play) has(handle int) bool {
	return handle >= 1 && handle <= len(p.m.handles) && p.m.inUse[handle-1]
}

func (p *play) want(what string, got, want any) {
	p.t.Helper()
	if got != want {
		p.t.Fatalf("%s: %v, want %v", what, got, want)
	}
}

func (p *play) alloc() {
	size := 1 + p.r.Intn(12)
	switch p.r.Intn(8) {
	case 0:
		size = 60 + p.r.Intn(10)
	case 1:
		size = 1 + p.r.Intn(64)
	case 2:
		size = 65 + p.r.Intn(200)
	}
	refs := p.r.Intn(size)
	kind := 1 + p.r.Intn(255)
	full := p.m.isFull(size)
	o, e := p.m.alloc(kind, refs, size-1-refs)
	ref, got := p.h.Alloc(kind, refs, size-1-refs)
	p.want("P3.7, P3.8: Alloc's error", got, e)
	p.want("P3.7, P3.8: Alloc's ref", ref, o.ref())
	p.want("P3.9: full", got == api.ErrHeapFull, full)
	if o == nil {
		return
	}
	for i := range o.raws {
		o.raws[i] = p.r.Uint64()
		p.want("P3.2: Set", p.h.Set(ref, refs+i, o.raws[i]), api.OK)
	}
	if p.r.Intn(3) > 0 {
		p.root(ref)
	}
}

func (p *play) root(ref uint64) {
	n, e := p.h.Root(ref)
	o := p.m.find(ref)
	if o == nil && ref != 0 {
		p.want("P3.4: Root", e, api.ErrHeapRef)
		return
	}
	at := slices.Index(p.m.inUse, false)
	if at < 0 {
		at = len(p.m.inUse)
		p.m.inUse = append(p.m.inUse, false)
		p.m.handles = append(p.m.handles, nil)
	}
	p.m.inUse[at], p.m.handles[at] = true, o
	p.want("P3.4: Root", e, api.OK)
	p.want("P3.4: Root's handle", n, at+1)
}

func (p *play) put() {
	n, ref := p.handle(), p.ref()
	want := api.OK
	switch o := p.m.find(ref); {
	case !p.has(n):
		want = api.ErrHeapHandle
	case o == nil && ref != 0:
		want = api.ErrHeapRef
	default:
		p.m.handles[n-1] = o
	}
	p.want("P3.4: Put", p.h.Put(n, ref), want)
}

func (p *play) drop() {
	n := p.handle()
	want := api.ErrHeapHandle
	if p.has(n) {
		p.m.inUse[n-1] = false
		want = api.OK
	}
	p.want("P3.4: Drop", p.h.Drop(n), want)
}

func (p *play) set() {
	ref, v := p.ref(), p.ref()
	o, to := p.m.find(ref), p.m.find(v)
	i, want := p.r.Intn(20)-2, api.OK
	switch {
	case o == nil:
		want = api.ErrHeapRef
	case i < 0 || i >= o.size()-1:
		want = api.ErrHeapField
	case i >= len(o.refs):
		o.raws[i-len(o.refs)] = v
	case to == nil && v != 0:
		want = api.ErrHeapRef
	default:
		o.refs[i] = to
	}
	p.want("P3.2: Set", p.h.Set(ref, i, v), want)
}

func (p *play) resize() {
	half := p.r.Intn(p.m.limit)
	p.want("P3.11: Resize", p.h.Resize(half), p.m.resize(half))
}

func (p *play) collect() {
	p.h.Collect()
	p.m.collect()
	p.m.fit(0)
}

func (p *play) step() {
	switch n := p.r.Intn(100); {
	case n < 45:
		p.alloc()
	case n < 75:
		p.set()
	case n < 80:
		p.root(p.ref())
	case n < 85:
		p.put()
	case n < 96:
		p.drop()
	case n < 98:
		p.collect()
	default:
		p.resize()
	}
}

// check holds all that the heap tells against the model.
func (p *play) check() {
	p.t.Helper()
	s := p.h.Stats()
	p.want("P3.12: Stats", s, p.m.stats())
	if 2*s.Half+s.Large > s.Limit || s.Used > s.Half {
		p.t.Fatalf("the words of the heap: %+v", s)
	}
	if got, want := p.h.Image(), p.m.image(); !slices.Equal(got, want) {
		p.t.Fatalf("P3.5, P3.12: Image() = %#x, want %#x", got, want)
	}
	for i, o := range p.m.handles {
		ref, e := p.h.At(i + 1)
		if p.m.inUse[i] {
			p.want("P3.5: At", ref, o.ref())
		} else {
			p.want("P3.4: At", e, api.ErrHeapHandle)
		}
	}
	for slot, o := range p.m.slots {
		p.checkSlot(slot, o)
	}
}

func (p *play) checkSlot(slot int, o *thing) {
	p.t.Helper()
	ref := slot0 + uint64(slot)
	kind, refs, raws, e := p.h.Object(ref)
	if o == nil {
		p.want("P3.5: a free slot", e, api.ErrHeapRef)
		return
	}
	p.want("P3.2: a large object", [3]int{kind, refs, raws}, [3]int{o.kind, len(o.refs), len(o.raws)})
	for i := range refs + raws {
		v, _ := p.h.Get(ref, i)
		if i < refs {
			p.want("P3.5: a large object's ref", v, o.refs[i].ref())
		} else {
			p.want("P3.5: a large object's raw", v, o.raws[i-refs])
		}
	}
}

// TestP3_DrawnCalls holds the heap against the model through drawn calls, on heaps of many limits.
func TestP3_DrawnCalls(t *testing.T) {
	for seed := range 60 {
		r := rand.New(rand.NewSource(int64(seed)))
		limit := 128 + r.Intn(1+seed*50)
		p := &play{t: t, r: r, h: made(t, limit), m: &model{limit: limit, half: api.MinHalf}}
		for range 300 {
			p.step()
			p.check()
		}
	}
}
