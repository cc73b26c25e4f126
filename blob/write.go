package blob

import (
	"larder/api"
	"larder/heap"
	"larder/word"
)

// Write changes a blob's bytes and makes it longer where it must; it may collect.
func Write(h *heap.Heap, ref uint64, at int, b []byte) (uint64, api.Errno) {
	old, e := Len(h, ref)
	if e != api.OK {
		return 0, e
	}
	if at < 0 || at > api.MaxText {
		return 0, api.ErrBlobSpan
	}
	if len(b) == 0 {
		return ref, api.OK
	}
	if len(b) > api.MaxText-at {
		return 0, api.ErrBlobLong
	}
	length := max(old, at+len(b))
	if word.Words(length) == word.Words(old) {
		// Behind the old end the words hold zeros: so a gap up to at needs none laid.
		return put(h, ref, length, at, b)
	}
	return grow(h, ref, length, at, b)
}

// grow makes a new blob of that length out of an old one, with b from place at on.
func grow(h *heap.Heap, ref uint64, length, at int, b []byte) (uint64, api.Errno) {
	// The old blob stays live while the new one is laid, also where its caller holds it by no handle.
	handle, e := h.Root(ref)
	if e != api.OK {
		return 0, e
	}
	defer h.Drop(handle)
	old, e := Read(h, ref)
	if e != api.OK {
		return 0, e
	}
	text := make([]byte, length)
	copy(text, old)
	copy(text[at:], b)
	return lay(h, text)
}
