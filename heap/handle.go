package heap

import "larder/api"

// firstHandle: handles count from here on, the pool's numbers from 0.
const firstHandle = 1

// Root gives a new handle that leads to the object.
func (h *Heap) Root(ref uint64) (int, api.Errno) {
	if !h.mayHold(ref) {
		return 0, api.ErrHeapRef
	}
	return firstHandle + h.handles.add(ref), api.OK
}

// At tells where the handle leads now.
func (h *Heap) At(handle int) (uint64, api.Errno) {
	ref, found := h.handles.get(handle - firstHandle)
	if !found {
		return 0, api.ErrHeapHandle
	}
	return ref, api.OK
}

// Put lets the handle lead elsewhere.
func (h *Heap) Put(handle int, ref uint64) api.Errno {
	n := handle - firstHandle
	if !h.handles.has(n) {
		return api.ErrHeapHandle
	}
	if !h.mayHold(ref) {
		return api.ErrHeapRef
	}
	h.handles.set(n, ref)
	return api.OK
}

// Drop gives the handle up.
func (h *Heap) Drop(handle int) api.Errno {
	n := handle - firstHandle
	if !h.handles.has(n) {
		return api.ErrHeapHandle
	}
	h.handles.drop(n)
	return api.OK
}
