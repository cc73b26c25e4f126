package rank_test

import (
	"maps"
	"math/rand"
	"slices"
	"testing"

	"larder/api"
	"larder/blob"
	"larder/heap"
	"larder/rank"
)

// stir does what moves objects about on the heap.
func stir(h *heap.Heap, r *rand.Rand) {
	switch r.Intn(8) {
	case 0:
		h.Collect()
	case 1:
		h.Resize(64 + r.Intn(h.Stats().Limit/2))
	case 2:
		h.Alloc(api.KindNode, r.Intn(5), r.Intn(200))
	case 3:
		blob.New(h, make([]byte, r.Intn(1000)))
	}
}

// twins are a set on the heap, open once or more, and what it should be.
type twins struct {
	open  []*rank.Rank
	seed  uint64
	want  map[string]member
	shape api.TableShape
}

// list tells the members that a set should have.
func (w *twins) list() []member { return slices.Collect(maps.Values(w.want)) }

// load adds what a set takes by P7.9.
func (w *twins) load(d load) load {
	sizes := []int{20, 6, 1 + w.shape.Buckets}
	if w.shape.Old > 0 {
		sizes = append(sizes, 1+w.shape.Old)
	}
	for _, m := range w.want {
		sizes = append(sizes, pieces(m)...)
	}
	for _, s := range sizes {
		d, _ = d.add(s)
	}
	return d
}

// play is a heap with some sets on it, and the draws that decide what is done with them.
type play struct {
	t       *testing.T
	r       *rand.Rand
	h       *heap.Heap
	sets    []*twins
	refused map[string]int
}

// load tells what is live by the chapter's words.
func (p *play) load() load {
	d := load{p.h.Stats().Limit, 1, 0}
	for _, w := range p.sets {
		d = w.load(d)
	}
	return d
}

// member draws a member that comes again; some are long.
func (p *play) member() member {
	n := p.r.Intn(4 + p.h.Stats().Limit/100)
	m := member{text(n % 3)[:n%3] + string(rune('A'+n)), int64(p.r.Intn(6) - 3), 1 + p.r.Intn(8)}
	switch p.r.Intn(10) {
	case 0:
		m.text = text(n * 7 % 700)
	case 1:
		m.score = []int64{least, most, -1 << 40, 1 << 40}[p.r.Intn(4)]
	}
	return m
}

func (p *play) openOrClose() {
	if len(p.sets) > 0 && p.r.Intn(4) > 0 {
		k := p.r.Intn(len(p.sets))
		w := p.sets[k]
		if p.r.Intn(2) == 0 {
			q, e := rank.Open(p.h, w.open[0].Ref())
			wantErrno(p.t, "Open", e, api.OK)
			w.open = append(w.open, q)
			return
		}
		i := p.r.Intn(len(w.open))
		w.open[i].Close()
		w.open = slices.Delete(w.open, i, i+1)
		if len(w.open) == 0 {
			p.sets = slices.Delete(p.sets, k, k+1)
		}
		return
	}
	_, fit := p.load().addAll(6, 5, 20)
	seed := p.r.Uint64()
	q, e := rank.New(p.h, seed)
	if fit < 3 {
		p.refused["New"]++
		if q != nil || e != api.ErrHeapFull {
			p.t.Fatalf("New without room: %d", e)
		}
		return
	}
	if e != api.OK {
		p.t.Fatalf("New: %d", e)
	}
	p.sets = append(p.sets, &twins{open: []*rank.Rank{q}, seed: seed, want: map[string]member{}, shape: api.TableShape{Buckets: 4}})
}

// step does to the table's shape what a step of a rehash does.
func (w *twins) step() {
	if w.shape.Old == 0 {
		return
	}
	if w.shape.Moved += 16; w.shape.Moved >= w.shape.Old {
		w.shape.Old, w.shape.Moved = 0, 0
	}
}

// rehash does to the table's shape what the beginning of a rehash does, if there is room beside that load.
func (p *play) rehash(w *twins, d load, buckets int) {
	if _, room := d.add(1 + buckets); !room {
		p.refused["array"]++
		return
	}
	w.shape.Old, w.shape.Buckets = w.shape.Buckets, buckets
}

func (p *play) add(w *twins, q *rank.Rank) {
	m := p.member()
	was, there := w.want[m.text]
	switch {
	case !there:
		p.enter(w, q, m)
	case was.score == m.score:
		wantAdd(p.t, q, m, false, api.OK)
	default:
		if _, room := p.load().add(4 + 2*m.level); !room {
			p.refused["move"]++
			wantAdd(p.t, q, m, false, api.ErrHeapFull)
			return
		}
		wantAdd(p.t, q, m, false, api.OK)
		w.step()
		w.want[m.text] = m
	}
}

// enter adds a member that is new.
func (p *play) enter(w *twins, q *rank.Rank, m member) {
	all := pieces(m)
	d, fit := p.load().addAll(all[:2]...)
	if fit < 2 {
		p.refused["node"]++
		wantAdd(p.t, q, m, false, api.ErrHeapFull)
		return
	}
	before := w.shape
	w.step()
	if before.Old > 0 && w.shape.Old == 0 { // the step has given the old array up, ahead of the table's own pieces
		d, _ = p.load().addAll(all[:2]...)
	}
	if _, fit = d.addAll(all[2:]...); fit < 2 {
		p.refused["entry"]++
		wantAdd(p.t, q, m, false, api.ErrHeapFull)
		return
	}
	wantAdd(p.t, q, m, true, api.OK)
	w.want[m.text] = m
	w.shape.Len++
	if w.shape.Old == 0 && w.shape.Len > w.shape.Buckets {
		p.rehash(w, p.load(), 2*w.shape.Buckets)
	}
}

func (p *play) remove(w *twins, q *rank.Rank) {
	text := p.member().text
	m, there := w.want[text]
	wantRemove(p.t, q, text, there, api.OK)
	if !there {
		return
	}
	w.step()
	delete(w.want, text)
	w.shape.Len--
	if w.shape.Old == 0 && w.shape.Buckets > 4 && 4*w.shape.Len < w.shape.Buckets {
		d := p.load() // with the blob and the node, which go last
		for _, s := range pieces(m)[:2] {
			d, _ = d.add(s)
		}
		p.rehash(w, d, w.shape.Buckets/2)
	}
}

// check holds all sets against what they should be.
func (p *play) check() {
	p.t.Helper()
	roots := 0
	for _, w := range p.sets {
		roots += 2 * len(w.open)
		q := w.open[p.r.Intn(len(w.open))]
		s := w.shape
		wantRehash(p.t, p.h, q, s.Len, s.Buckets, s.Old, s.Moved)
		wantSet(p.t, q, w.list()...)
		wantLaid(p.t, p.h, q, w.seed, w.list()...)
	}
	if got := p.h.Stats().Roots; got != roots {
		p.t.Fatalf("%d handles are in use, want %d", got, roots)
	}
	if p.t.Failed() {
		p.t.FailNow()
	}
}

// TestP7_9_DrawnCalls holds sets against plain ones, on heaps that are often full and are collected and resized between.
func TestP7_9_DrawnCalls(t *testing.T) {
	refused := map[string]int{}
	for _, limit := range []int{128, 200, 300, 700, 1500, 4000} {
		p := &play{t: t, r: rand.New(rand.NewSource(int64(limit))), h: made(t, limit), refused: refused}
		for i := range 3000 {
			stir(p.h, p.r)
			if len(p.sets) == 0 || p.r.Intn(60) == 0 {
				p.openOrClose()
			} else {
				w := p.sets[p.r.Intn(len(p.sets))]
				q := w.open[p.r.Intn(len(w.open))]
				if adds := 6 + i/100%3*5; p.r.Intn(20) < adds {
					p.add(w, q)
				} else {
					p.remove(w, q)
				}
			}
			if i%4 == 0 || limit < 1000 {
				p.check()
			}
		}
		d := p.load()
		wantUsed(t, p.h, d.small, d.large, p.h.Stats().Roots)
	}
	for _, what := range []string{"New", "node", "entry", "move", "array"} {
		if refused[what] < 10 {
			t.Errorf("%s found no room just %d times", what, refused[what])
		}
	}
}

// TestP7_9_InNumbers: what a set takes, with large members and arrays in blocks.
func TestP7_9_InNumbers(t *testing.T) {
	h := made(t, 1<<18)
	w := &twins{open: []*rank.Rank{ranked(t, h, 4)}, want: map[string]member{}}
	for i := range 140 {
		n := i * 30 % 4095
		m := member{string([]byte{byte(i), 1}) + text(n), int64(i * 31 % 17), 1 + i%8}
		wantAdd(t, w.open[0], m, true, api.OK)
		w.want[m.text] = m
		scores := tableOf(t, h, w.open[0])
		w.shape = scores.Shape()
		scores.Close()
		d := w.load(load{1 << 18, 1, 0})
		wantUsed(t, h, d.small, d.large, 2)
	}
}

// TestP7_10_WhatAnswersHangOn: two sets of other seeds and levels, on heaps that are stirred in other ways, answer alike.
func TestP7_10_WhatAnswersHangOn(t *testing.T) {
	r := rand.New(rand.NewSource(10))
	heaps := []*heap.Heap{made(t, 1<<15), made(t, 1<<16), made(t, 1<<18)}
	var sets []*rank.Rank
	for i, h := range heaps {
		sets = append(sets, ranked(t, h, uint64(i)*0x9e3779b97f4a7c15))
	}
	for i := range 3000 {
		text := []byte{byte('a' + r.Intn(12)), byte('a' + r.Intn(12))}
		score, add := int64(r.Intn(20)), r.Intn(2*3000) > i
		var first, second []any
		for k, q := range sets {
			if k > 0 {
				stir(heaps[k], r)
			}
			var now []any
			if add {
				level := []int{1, 8, 1 + r.Intn(8)}[k]
				added, e := q.Add(text, score, level)
				now = append(now, added, e)
			} else {
				was, e := q.Remove(text)
				now = append(now, was, e)
			}
			place, ok := q.Place(text)
			got, there := q.Score(text)
			now = append(now, place, ok, got, there, q.Len(), q.Before(score, text), q.Below(score, false), q.Below(score, true))
			for _, s := range q.Slice(place, 5) {
				now = append(now, string(s.Member), s.Score)
			}
			first, second = second, now
			if k > 0 && !slices.Equal(first, second) {
				t.Fatalf("call %d: one set answers %v, another %v", i, first, second)
			}
		}
	}
}
