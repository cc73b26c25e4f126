package arena_test

import (
	"math/rand"
	"slices"
	"testing"

	"larder/api"
	"larder/arena"
)

// object and model: a block as the chapter tells it, an object a row, without words.
type object struct {
	kind, refs, raws int
	fields           []uint64
	moved            bool
	to               int
}

type model struct {
	size    int
	objects []*object
}

func (m *model) used() int {
	n := 1
	for _, o := range m.objects {
		n += 1 + len(o.fields)
	}
	return n
}

func (m *model) find(at int) *object {
	place := 1
	for _, o := range m.objects {
		if place == at {
			return o
		}
		place += 1 + len(o.fields)
	}
	return nil
}

func (m *model) add(o *object) (int, api.Errno) {
	at := m.used()
	if 1+len(o.fields) > m.size-at {
		return 0, api.ErrArenaFull
	}
	m.objects = append(m.objects, o)
	return at, api.OK
}

func (m *model) alloc(kind, refs, raws int) (int, api.Errno) {
	if kind < 1 || kind > 255 || refs < 0 || raws < 0 {
		return 0, api.ErrArenaShape
	}
	return m.add(&object{kind: kind, refs: refs, raws: raws, fields: make([]uint64, refs+raws)})
}

// open: the object that can be asked there.
func (m *model) open(at int) (*object, api.Errno) {
	o := m.find(at)
	if o == nil {
		return nil, api.ErrArenaAt
	}
	if o.moved {
		return nil, api.ErrArenaMoved
	}
	return o, api.OK
}

func (m *model) set(at, i int, v uint64) api.Errno {
	o, e := m.open(at)
	if e != api.OK {
		return e
	}
	if i < 0 || i >= len(o.fields) {
		return api.ErrArenaField
	}
	o.fields[i] = v
	return api.OK
}

func (m *model) bytes(at, from, n int) ([]byte, api.Errno) {
	o, e := m.open(at)
	if e != api.OK {
		return nil, e
	}
	if from < 0 || n < 0 || from+n > 8*o.raws {
		return nil, api.ErrArenaSpan
	}
	var b []byte
	for j := from; j < from+n; j++ {
		b = append(b, byte(o.fields[o.refs+j/8]>>(8*(j%8))))
	}
	return b, api.OK
}

func (m *model) setBytes(at, from int, b []byte) api.Errno {
	if _, e := m.bytes(at, from, len(b)); e != api.OK {
		return e
	}
	o := m.find(at)
	for i, c := range b {
		j := from + i
		f := &o.fields[o.refs+j/8]
		*f = *f&^(0xff<<(8*(j%8))) | uint64(c)<<(8*(j%8))
	}
	return api.OK
}

func (m *model) take(src *model, at int) (int, api.Errno) {
	o := src.find(at)
	if o == nil {
		return 0, api.ErrArenaAt
	}
	if o.moved {
		return o.to, api.OK
	}
	to, e := m.add(&object{kind: o.kind, refs: o.refs, raws: o.raws, fields: slices.Clone(o.fields)})
	if e == api.OK {
		o.moved, o.to = true, to
	}
	return to, e
}

func (m *model) image() []uint64 {
	words := []uint64{0}
	for _, o := range m.objects {
		h := head(o.kind, o.refs, o.raws)
		if o.moved {
			h = 1<<63 | uint64(o.to)
		}
		words = append(append(words, h), o.fields...)
	}
	return words
}

// twin: a block and its model.
type twin struct {
	a *arena.Arena
	m *model
}

func (w twin) compare(t *testing.T) {
	t.Helper()
	if w.a.Size() != w.m.size || w.a.Used() != w.m.used() || !slices.Equal(w.a.Image(), w.m.image()) {
		t.Fatalf("Size %d, Used %d, Image %#x; want %d, %d, %#x", w.a.Size(), w.a.Used(), w.a.Image(), w.m.size, w.m.used(), w.m.image())
	}
	for at := -2; at < w.m.size+2; at++ {
		kind, refs, raws, e := w.a.Object(at)
		to, moved, f := w.a.Moved(at)
		o, want := w.m.open(at)
		if e != want {
			t.Fatalf("Object(%d): %d, want %d", at, e, want)
		}
		if o == nil {
			o = &object{}
		}
		if kind != o.kind || refs != o.refs || raws != o.raws {
			t.Fatalf("Object(%d) = %d, %d, %d, want %v", at, kind, refs, raws, o)
		}
		any := w.m.find(at)
		if any == nil && (to != 0 || moved || f != api.ErrArenaAt) || any != nil && (to != any.to || moved != any.moved || f != api.OK) {
			t.Fatalf("Moved(%d) = %d, %v, %d, want %v", at, to, moved, f, any)
		}
	}
}

// someWord gives words of which many look like heads or like moved ones.
func someWord(r *rand.Rand) uint64 {
	switch r.Intn(4) {
	case 0:
		return head(1+r.Intn(255), r.Intn(4), r.Intn(4))
	case 1:
		return 1<<63 | uint64(r.Intn(30))
	}
	return r.Uint64()
}

// somePlace gives mostly words at which an object begins.
func somePlace(r *rand.Rand, w twin) int {
	if n := len(w.m.objects); n > 0 && r.Intn(5) > 0 {
		at := 1
		for _, o := range w.m.objects[:r.Intn(n)] {
			at += 1 + len(o.fields)
		}
		return at
	}
	return r.Intn(w.m.size+4) - 2
}

func randomCall(t *testing.T, r *rand.Rand, w, src twin) {
	t.Helper()
	at, i, n := somePlace(r, w), r.Intn(8)-1, r.Intn(12)-1
	switch r.Intn(8) {
	case 0, 1:
		kind, refs, raws := r.Intn(258), r.Intn(6)-1, r.Intn(6)-1
		p, e := w.a.Alloc(kind, refs, raws)
		if q, f := w.m.alloc(kind, refs, raws); p != q || e != f {
			t.Fatalf("Alloc(%d, %d, %d) = %d, %d, want %d, %d", kind, refs, raws, p, e, q, f)
		}
	case 2:
		v := someWord(r)
		if e, f := w.a.Set(at, i, v), w.m.set(at, i, v); e != f {
			t.Fatalf("Set(%d, %d, %#x) = %d, want %d", at, i, v, e, f)
		}
	case 3:
		b, e := w.a.Bytes(at, 3*i, n)
		if c, f := w.m.bytes(at, 3*i, n); e != f || !slices.Equal(b, c) {
			t.Fatalf("Bytes(%d, %d, %d) = %v, %d, want %v, %d", at, 3*i, n, b, e, c, f)
		}
	case 4:
		b := make([]byte, max(n, 0))
		r.Read(b)
		if e, f := w.a.SetBytes(at, 3*i, b), w.m.setBytes(at, 3*i, b); e != f {
			t.Fatalf("SetBytes(%d, %d, %v) = %d, want %d", at, 3*i, b, e, f)
		}
	case 5, 6:
		at = somePlace(r, src)
		p, e := w.a.Take(src.a, at)
		if q, f := w.m.take(src.m, at); p != q || e != f {
			t.Fatalf("Take(%d) = %d, %d, want %d, %d", at, p, e, q, f)
		}
	case 7:
		if r.Intn(8) == 0 {
			w.a.Clear()
			w.m.objects = nil
		}
	}
}

func TestP2_2_BlocksGoAsTheModelGoes(t *testing.T) {
	r := rand.New(rand.NewSource(2))
	for range 60 {
		twins := make([]twin, 3)
		for i := range twins {
			size := 1 + r.Intn(40)
			twins[i] = twin{block(t, size), &model{size: size}}
		}
		for range 120 {
			randomCall(t, r, twins[r.Intn(3)], twins[r.Intn(3)])
			for _, w := range twins {
				w.compare(t)
			}
		}
	}
}
