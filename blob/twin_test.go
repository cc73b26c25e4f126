package blob_test

import (
	"math/rand"
	"testing"

	"larder/api"
	"larder/blob"
	"larder/heap"
	"larder/word"
)

// twins are two heaps: on the one blobs are made and written by the package, on the other by those calls of the heap that the chapter names, and no others. They must stay alike in all that a heap tells.
type twins struct {
	t           *testing.T
	by, against *heap.Heap
}

// lay makes a blob on the second heap.
func (w twins) lay(bytes string) (uint64, api.Errno) {
	ref, e := w.against.Alloc(api.KindBlob, 0, 1+word.Words(len(bytes)))
	if e != api.OK {
		return 0, e
	}
	w.against.Set(ref, 0, uint64(len(bytes)))
	w.against.SetBytes(ref, 8, []byte(bytes))
	return ref, api.OK
}

// write is Write on the second heap, for arguments that are within their bounds.
func (w twins) write(ref uint64, old string, at int, b string) (uint64, api.Errno) {
	want := over(old, at, b)
	if word.Words(len(want)) == word.Words(len(old)) {
		w.against.Set(ref, 0, uint64(len(want)))
		w.against.SetBytes(ref, 8, []byte(want))
		return ref, api.OK
	}
	handle, _ := w.against.Root(ref)
	ref, e := w.lay(want)
	w.against.Drop(handle)
	return ref, e
}

// same holds the answers and the heaps against each other.
func (w twins) same(what string, ref, wantRef uint64, e, want api.Errno) {
	w.t.Helper()
	if ref != wantRef || e != want {
		w.t.Errorf("%s = %#x, %d, want %#x, %d", what, ref, e, wantRef, want)
	}
	wantState(w.t, w.by, stateOf(w.against), what)
	if w.t.Failed() {
		w.t.FailNow()
	}
}

func TestP4_2_OneAllocAndNothingElse(t *testing.T) {
	for _, limit := range []int{128, 200, 700, 3000} {
		r := rand.New(rand.NewSource(int64(limit)))
		w := twins{t, made(t, limit), made(t, limit)}
		for range 500 {
			b := text(r.Intn(r.Intn(900) + 1))
			cut := r.Intn(len(b) + 1)
			ref, e := blob.New(w.by, []byte(b[:cut]), []byte(b[cut:]))
			want, wantE := w.lay(b)
			w.same("New", ref, want, e, wantE)
			if e == api.OK && r.Intn(3) == 0 {
				w.by.Root(ref)
				w.against.Root(ref)
			}
			if n := w.by.Stats().Roots; n > 0 && r.Intn(2) == 0 {
				handle := 1 + r.Intn(n)
				w.by.Drop(handle)
				w.against.Drop(handle)
			}
		}
	}
}

func TestP4_4_TheCallsOfAWrite(t *testing.T) {
	for _, limit := range []int{128, 200, 700, 3000} {
		r := rand.New(rand.NewSource(int64(limit)))
		w := twins{t, made(t, limit), made(t, limit)}
		for range 500 {
			old := text(r.Intn(r.Intn(limit) + 1))
			ref, e := blob.New(w.by, []byte(old))
			w.lay(old)
			if e != api.OK {
				continue
			}
			held := r.Intn(2) == 0
			if held {
				w.by.Root(ref)
				w.against.Root(ref)
			}
			place, b := r.Intn(len(old)+20), text(r.Intn(40))
			to, e := blob.Write(w.by, ref, place, []byte(b))
			want, wantE := w.write(ref, old, place, b)
			w.same("Write", to, want, e, wantE)
			if held {
				w.by.Drop(1)
				w.against.Drop(1)
			}
		}
		if s := w.by.Stats(); s.Collections == 0 {
			t.Errorf("limit %d: no collection came", limit)
		}
	}
}
