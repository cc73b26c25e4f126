package blob_test

import (
	"bytes"
	"math/rand"
	"testing"

	"larder/api"
	"larder/blob"
	"larder/heap"
)

// stir does what moves objects about on the heap.
func stir(h *heap.Heap, r *rand.Rand) {
	switch r.Intn(5) {
	case 0:
		h.Collect()
	case 1:
		h.Resize(64 + r.Intn(3000))
	case 2:
		h.Alloc(api.KindNode, r.Intn(5), r.Intn(200))
	case 3:
		blob.New(h, make([]byte, r.Intn(1000)))
	}
}

func TestP4_7_RootedBlobsStay(t *testing.T) {
	r := rand.New(rand.NewSource(4))
	h := made(t, 30000)
	type kept struct {
		handle int
		want   string
	}
	var all []kept
	for _, n := range edges {
		for _, b := range []string{text(n), string(bytes.Repeat([]byte{0xff}, n))} {
			if n > 600 {
				b = b[:600]
			}
			all = append(all, kept{root(t, h, laid(t, h, b)), b})
		}
	}
	for range 500 {
		stir(h, r)
		for _, k := range all {
			wantObject(t, h, at(t, h, k.handle), k.want)
		}
		i := r.Intn(len(all))
		if len(all[i].want) > 0 { // a Write within the bytes that are there is one in place
			place := r.Intn(len(all[i].want))
			blob.Write(h, at(t, h, all[i].handle), place, []byte{byte(r.Intn(256))})
			b, e := blob.Read(h, at(t, h, all[i].handle))
			if e != api.OK {
				t.Fatalf("Read: %d", e)
			}
			b[place] = all[i].want[place]
			if string(b) != all[i].want {
				t.Fatalf("a Write of one byte changed others")
			}
			blob.Write(h, at(t, h, all[i].handle), place, []byte(all[i].want[place:place+1]))
		}
		if t.Failed() {
			return
		}
	}
}

// TestP4_7_DrawnCalls holds blobs that come, are written and go against plain texts, on a heap that is often full.
func TestP4_7_DrawnCalls(t *testing.T) {
	for _, limit := range []int{128, 400, 2000, 20000} {
		r := rand.New(rand.NewSource(int64(limit)))
		h := made(t, limit)
		want := map[int]string{} // by handle
		refused := 0
		for range 2000 {
			stir(h, r)
			handle := 1 + r.Intn(12)
			old, found := want[handle]
			if !found {
				b := text(r.Intn(r.Intn(limit/8) + 1))
				ref, e := blob.New(h, []byte(b))
				if e != api.OK {
					refused++
					continue
				}
				want[root(t, h, ref)] = b
				continue
			}
			if r.Intn(5) == 0 {
				h.Drop(handle)
				delete(want, handle)
				continue
			}
			place, b := r.Intn(min(len(old)+30, 4000)), text(r.Intn(60))
			ref, e := blob.Write(h, at(t, h, handle), place, []byte(b))
			switch e {
			case api.OK:
				h.Put(handle, ref)
				want[handle] = over(old, place, b)
			case api.ErrHeapFull:
				refused++
			default:
				t.Fatalf("Write(%d bytes, %d, %d bytes): %d", len(old), place, len(b), e)
			}
			for handle, b := range want {
				wantObject(t, h, at(t, h, handle), b)
				wantRead(t, h, at(t, h, handle), b)
			}
			if got := h.Stats().Roots; got != len(want) || t.Failed() {
				t.Fatalf("%d handles are in use, want %d", got, len(want))
			}
		}
		if limit == 400 && refused == 0 {
			t.Errorf("limit %d: nothing was refused", limit)
		}
	}
}
