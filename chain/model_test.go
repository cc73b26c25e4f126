package chain_test

import (
	"math/rand"
	"slices"
	"strings"
	"testing"

	"larder/api"
	"larder/blob"
	"larder/chain"
	"larder/heap"
)

// stir does what moves objects about on the heap.
func stir(h *heap.Heap, r *rand.Rand) {
	switch r.Intn(6) {
	case 0:
		h.Collect()
	case 1:
		h.Resize(64 + r.Intn(h.Stats().Limit/2))
	case 2:
		h.Alloc(api.KindBuckets, r.Intn(5), r.Intn(200))
	case 3:
		blob.New(h, make([]byte, r.Intn(1000)))
	}
}

// twins are a list on the heap, open once or more, and what it should be.
type twins struct {
	open []*chain.List
	want []string
}

// play is a heap with some lists on it, and the draws that decide what is done with them.
type play struct {
	t       *testing.T
	r       *rand.Rand
	h       *heap.Heap
	lists   []*twins
	refused int
}

// load tells what is live by the chapter's words.
func (p *play) load() load {
	d := load{p.h.Stats().Limit, 1, 0}
	for _, w := range p.lists {
		d, _ = d.add(4)
		for _, b := range w.want {
			d, _ = d.add(4)
			d, _ = d.add(words(len(b)))
		}
	}
	return d
}

// element draws a short text that comes again, or a long one.
func (p *play) element() string {
	if p.r.Intn(4) > 0 {
		return strings.Repeat(string(rune('a'+p.r.Intn(2))), p.r.Intn(3))
	}
	return text(p.r.Intn(p.r.Intn(700) + 1))
}

// adds holds a call that lays something against P5.4; it tells whether it was carried out.
func (p *play) adds(got api.Errno, room bool) bool {
	p.t.Helper()
	want := api.OK
	if !room {
		want = api.ErrHeapFull
		p.refused++
	}
	if got != want {
		p.t.Fatalf("error %d, want %d", got, want)
	}
	return got == api.OK
}

func (p *play) openOrClose() {
	if len(p.lists) > 0 && p.r.Intn(3) > 0 {
		k := p.r.Intn(len(p.lists))
		w := p.lists[k]
		if p.r.Intn(2) == 0 {
			l, e := chain.Open(p.h, w.open[0].Ref())
			wantErrno(p.t, "Open", e, api.OK)
			w.open = append(w.open, l)
			return
		}
		i := p.r.Intn(len(w.open))
		w.open[i].Close()
		w.open = slices.Delete(w.open, i, i+1)
		if len(w.open) == 0 {
			p.lists = slices.Delete(p.lists, k, k+1)
		}
		return
	}
	_, room := p.load().add(4)
	l, e := chain.New(p.h)
	if p.adds(e, room) {
		p.lists = append(p.lists, &twins{open: []*chain.List{l}})
	}
}

// add draws a call that lays an element.
func (p *play) add(w *twins, l *chain.List) {
	b := p.element()
	i := p.r.Intn(len(w.want) + 1)
	room, roomToSet := p.load().hasRoom(len(b), true), p.load().hasRoom(len(b), false)
	switch p.r.Intn(4) {
	case 0:
		if p.adds(l.Push(true, []byte(b)), room) {
			w.want = slices.Insert(w.want, 0, b)
		}
	case 1:
		if p.adds(l.Push(false, []byte(b)), room) {
			w.want = append(w.want, b)
		}
	case 2:
		if p.adds(l.Insert(i, []byte(b)), room) {
			w.want = slices.Insert(w.want, i, b)
		}
	case 3:
		if i < len(w.want) && p.adds(l.Set(i, []byte(b)), roomToSet) {
			w.want[i] = b
		}
	}
}

// take draws a call that takes elements away.
func (p *play) take(w *twins, l *chain.List) {
	front := p.r.Intn(2) == 0
	switch p.r.Intn(3) {
	case 0:
		if len(w.want) == 0 {
			wantPop(p.t, l, front, "", api.ErrChainEmpty)
		} else if front {
			wantPop(p.t, l, true, w.want[0], api.OK)
			w.want = w.want[1:]
		} else {
			wantPop(p.t, l, false, w.want[len(w.want)-1], api.OK)
			w.want = w.want[:len(w.want)-1]
		}
	case 1:
		i := p.r.Intn(len(w.want) + 1)
		n := p.r.Intn(min(len(w.want)-i, 3) + 1)
		wantErrno(p.t, "Cut", l.Cut(i, n), api.OK)
		w.want = slices.Delete(w.want, i, i+n)
	case 2:
		b, most := p.element(), p.r.Intn(4)-1
		left, n := struck(w.want, front, most, b)
		wantStrike(p.t, l, front, most, b, n)
		w.want = left
	}
}

// struck tells what is left of a list behind a Strike, and how many are gone.
func struck(list []string, front bool, most int, b string) ([]string, int) {
	left := slices.Clone(list)
	n := 0
	for n < most {
		i := slices.Index(left, b)
		if !front {
			for k := range left {
				if left[k] == b {
					i = k
				}
			}
		}
		if i < 0 {
			break
		}
		left = slices.Delete(left, i, i+1)
		n++
	}
	return left, n
}

func (p *play) check() {
	p.t.Helper()
	roots := 0
	for _, w := range p.lists {
		roots += len(w.open)
		wantList(p.t, p.h, w.open[p.r.Intn(len(w.open))], w.want...)
	}
	if got := p.h.Stats().Roots; got != roots {
		p.t.Fatalf("%d handles are in use, want %d", got, roots)
	}
	if p.t.Failed() {
		p.t.FailNow()
	}
}

// TestP5_12_DrawnCalls holds lists against plain ones, on heaps that are often full and are collected and resized between.
func TestP5_12_DrawnCalls(t *testing.T) {
	for _, limit := range []int{128, 200, 500, 2000, 6000} {
		p := &play{t: t, r: rand.New(rand.NewSource(int64(limit))), h: made(t, limit)}
		for range 2000 {
			stir(p.h, p.r)
			if len(p.lists) == 0 || p.r.Intn(12) == 0 {
				p.openOrClose()
			} else {
				w := p.lists[p.r.Intn(len(p.lists))]
				l := w.open[p.r.Intn(len(w.open))]
				if p.r.Intn(20) < 13 {
					p.add(w, l)
				} else {
					p.take(w, l)
				}
			}
			p.check()
		}
		if p.refused == 0 && limit < 2000 {
			t.Errorf("limit %d: nothing was refused", limit)
		}
		d := p.load()
		roots := p.h.Stats().Roots
		wantUsed(t, p.h, d.small, d.large, roots)
	}
}
