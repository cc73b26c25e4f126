package table_test

import (
	"maps"
	"math/rand"
	"slices"
	"testing"

	"larder/api"
	"larder/blob"
	"larder/heap"
	"larder/table"
)

// stir does what moves objects about on the heap.
func stir(h *heap.Heap, r *rand.Rand) {
	switch r.Intn(8) {
	case 0:
		h.Collect()
	case 1:
		h.Resize(64 + r.Intn(h.Stats().Limit/2))
	case 2:
		h.Alloc(api.KindNode, r.Intn(5), r.Intn(200))
	case 3:
		blob.New(h, make([]byte, r.Intn(1000)))
	}
}

// value is what should lie under a key: an object of so many words with its number in the last one (none, if size is 0), and two words.
type value struct {
	size int
	mark uint64
	a, b uint64
}

// twins are a table on the heap, open once or more, and what it should be.
type twins struct {
	open  []*table.Table
	seed  uint64
	want  map[string]value
	shape api.TableShape
}

// play is a heap with some tables on it, and the draws that decide what is done with them.
type play struct {
	t       *testing.T
	r       *rand.Rand
	h       *heap.Heap
	tables  []*twins
	refused map[string]int
}

// load tells what is live by the chapter's words.
func (p *play) load() load {
	d := load{p.h.Stats().Limit, 1, 0}
	for _, w := range p.tables {
		d, _ = d.add(6)
		d, _ = d.add(1 + w.shape.Buckets)
		if w.shape.Old > 0 {
			d, _ = d.add(1 + w.shape.Old)
		}
		for key, v := range w.want {
			d, _ = d.put(len(key))
			if v.size > 0 {
				d, _ = d.add(v.size)
			}
		}
	}
	return d
}

// key draws a key that comes again; some are long, some have the hash of another.
func (p *play) key(w *twins) string {
	n := p.r.Intn(4 + p.h.Stats().Limit/100)
	switch p.r.Intn(8) {
	case 0:
		return text(n * 7 % 700)
	case 1:
		return hashed(w.seed, uint64(n%3)<<63>>1, uint64(n))
	}
	return text(n % 3)[:n%3] + string(rune('A'+n))
}

func (p *play) openOrClose() {
	if len(p.tables) > 0 && p.r.Intn(4) > 0 {
		k := p.r.Intn(len(p.tables))
		w := p.tables[k]
		if p.r.Intn(2) == 0 {
			m, e := table.Open(p.h, w.open[0].Ref())
			wantErrno(p.t, "Open", e, api.OK)
			w.open = append(w.open, m)
			return
		}
		i := p.r.Intn(len(w.open))
		w.open[i].Close()
		w.open = slices.Delete(w.open, i, i+1)
		if len(w.open) == 0 {
			p.tables = slices.Delete(p.tables, k, k+1)
		}
		return
	}
	d, room := p.load().add(6)
	if room {
		_, room = d.add(5)
	}
	seed := p.r.Uint64()
	m, e := table.New(p.h, seed)
	if !room {
		p.refused["New"]++
		wantErrno(p.t, "New", e, api.ErrHeapFull)
		return
	}
	if e != api.OK {
		p.t.Fatalf("New: %d", e)
	}
	p.tables = append(p.tables, &twins{open: []*table.Table{m}, seed: seed, want: map[string]value{}, shape: api.TableShape{Buckets: 4}})
}

// value draws what is to be put; its object is not held by anything.
func (p *play) value() (uint64, value) {
	v := value{a: p.r.Uint64(), b: p.r.Uint64()}
	if p.r.Intn(2) == 0 {
		return 0, v
	}
	v.size, v.mark = 2+p.r.Intn(p.r.Intn(70)+1), p.r.Uint64()
	ref, e := p.h.Alloc(99, 0, v.size-1)
	if e != api.OK {
		return 0, value{a: v.a, b: v.b}
	}
	p.h.Set(ref, v.size-2, v.mark)
	return ref, v
}

// step does to the shape what a step of a rehash does.
func (w *twins) step() {
	if w.shape.Old == 0 {
		return
	}
	if w.shape.Moved += 16; w.shape.Moved >= w.shape.Old {
		w.shape.Old, w.shape.Moved = 0, 0
	}
}

// rehash does to the shape what the beginning of a rehash does, if there is room.
func (p *play) rehash(w *twins, buckets int) {
	if _, room := p.load().add(1 + buckets); !room {
		p.refused["array"]++
		return
	}
	w.shape.Old, w.shape.Buckets = w.shape.Buckets, buckets
}

func (p *play) put(w *twins, m *table.Table) {
	key := p.key(w)
	ref, v := p.value()
	added, e := m.Put([]byte(key), ref, v.a, v.b)
	w.step()
	if _, there := w.want[key]; there {
		if added || e != api.OK {
			p.t.Fatalf("Put of a key that is there: %v, %d", added, e)
		}
		w.want[key] = v
		return
	}
	d := p.load()
	if v.size > 0 {
		d, _ = d.add(v.size)
	}
	if _, room := d.put(len(key)); !room {
		p.refused["Put"]++
		if added || e != api.ErrHeapFull {
			p.t.Fatalf("Put without room: %v, %d", added, e)
		}
		return
	}
	if !added || e != api.OK {
		p.t.Fatalf("Put: %v, %d", added, e)
	}
	w.want[key] = v
	w.shape.Len++
	if w.shape.Old == 0 && w.shape.Len > w.shape.Buckets {
		p.rehash(w, 2*w.shape.Buckets)
	}
}

func (p *play) delete(w *twins, m *table.Table) {
	key := p.key(w)
	e := m.Delete([]byte(key))
	w.step()
	if _, there := w.want[key]; !there {
		wantErrno(p.t, "Delete", e, api.ErrTableNone)
		return
	}
	wantErrno(p.t, "Delete", e, api.OK)
	delete(w.want, key)
	w.shape.Len--
	if w.shape.Old == 0 && w.shape.Buckets > 4 && 4*w.shape.Len < w.shape.Buckets {
		p.rehash(w, w.shape.Buckets/2)
	}
}

// check holds all tables against what they should be.
func (p *play) check() {
	p.t.Helper()
	roots := 0
	for _, w := range p.tables {
		roots += len(w.open)
		m := w.open[p.r.Intn(len(w.open))]
		if got := m.Shape(); got != w.shape {
			p.t.Fatalf("Shape %+v, want %+v", got, w.shape)
		}
		wantKeys(p.t, m, w.seed, slices.Collect(maps.Keys(w.want))...)
		for key, v := range w.want {
			p.checkValue(m, key, v)
		}
	}
	if got := p.h.Stats().Roots; got != roots {
		p.t.Fatalf("%d handles are in use, want %d", got, roots)
	}
	if p.t.Failed() {
		p.t.FailNow()
	}
}

func (p *play) checkValue(m *table.Table, key string, v value) {
	p.t.Helper()
	ref, a, b, e := m.Get([]byte(key))
	if a != v.a || b != v.b || e != api.OK || (ref == 0) != (v.size == 0) {
		p.t.Fatalf("Get(%.40q): %d, %d, %d, %d, want %+v", key, ref, a, b, e, v)
	}
	if ref == 0 {
		return
	}
	kind, _, raws, e := p.h.Object(ref)
	if kind != 99 || raws != v.size-1 || e != api.OK || field(p.t, p.h, ref, raws-1) != v.mark {
		p.t.Fatalf("under %.40q lies another object", key)
	}
}

// TestP6_10_DrawnCalls holds tables against plain ones, on heaps that are often full and are collected and resized between.
func TestP6_10_DrawnCalls(t *testing.T) {
	refused := map[string]int{}
	for _, limit := range []int{128, 180, 300, 700, 1500, 4000} {
		p := &play{t: t, r: rand.New(rand.NewSource(int64(limit))), h: made(t, limit), refused: refused}
		for i := range 3000 {
			stir(p.h, p.r)
			if len(p.tables) == 0 || p.r.Intn(60) == 0 {
				p.openOrClose()
			} else {
				w := p.tables[p.r.Intn(len(p.tables))]
				m := w.open[p.r.Intn(len(w.open))]
				if puts := 6 + i/100%3*5; p.r.Intn(20) < puts {
					p.put(w, m)
				} else if p.r.Intn(8) > 0 {
					p.delete(w, m)
				} else if on := w.shape.Old > 0; m.Step() == on {
					w.step()
				} else {
					t.Fatalf("Step tells %v", !on)
				}
			}
			if i%4 == 0 || limit < 1000 {
				p.check()
			}
		}
		d := p.load()
		wantUsed(t, p.h, d.small, d.large, p.h.Stats().Roots)
	}
	for _, what := range []string{"New", "Put", "array"} {
		if refused[what] < 10 {
			t.Errorf("%s found no room just %d times", what, refused[what])
		}
	}
}

// TestP6_10_WordsOfTheArrays: with room at all times they stay within 21 + 8*Len().
func TestP6_10_WordsOfTheArrays(t *testing.T) {
	r := rand.New(rand.NewSource(10))
	for _, most := range []int{6, 40, 300, 3000} {
		h := made(t, 1<<19)
		m := tabled(t, h, r.Uint64())
		n, there := 0, map[int]bool{}
		for i := range 12 * most {
			key := r.Intn(most)
			if wave := i / most % 4; wave == 0 || wave == 2 && r.Intn(2) == 0 {
				m.Put(number(key), 0, 0, 0)
				there[key] = true
			} else {
				if wave == 3 {
					key = n % most // all of them, one behind the other
					n++
				}
				m.Delete(number(key))
				delete(there, key)
			}
			s := m.Shape()
			words := 1 + s.Buckets
			if s.Old > 0 {
				words += 1 + s.Old
			}
			if words > 21+8*s.Len || s.Len != len(there) {
				t.Fatalf("%+v with %d keys", s, len(there))
			}
		}
	}
}

func number(i int) []byte { return []byte{byte(i), byte(i >> 8)} }

// TestP6_10_InNumbers: what a table takes, with large keys and arrays in blocks.
func TestP6_10_InNumbers(t *testing.T) {
	h := made(t, 1<<17)
	m := tabled(t, h, 4)
	d := load{1 << 17, 1 + 6, 0}
	for i := range 140 {
		n := i * 30 % 4097
		wantPut(t, m, string(number(i))+text(n)[:max(n-2, 0)], 0, 0, 0, true, api.OK)
		d, _ = d.put(max(n, 2))
		now := d
		s := m.Shape()
		now, _ = now.add(1 + s.Buckets)
		if s.Old > 0 {
			now, _ = now.add(1 + s.Old)
		}
		wantUsed(t, h, now.small, now.large, 1)
	}
}
