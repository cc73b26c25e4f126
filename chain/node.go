package chain

import (
	"iter"

	"larder/api"
	"larder/blob"
)

// The fields of a list's head cell.
const (
	headFirst = iota
	headLast
	headCount

	headRefs = headCount
	headRaws = 1
)

// The fields of a node.
const (
	nodePrevious = iota
	nodeNext
	nodeElement

	nodeRefs = nodeElement + 1
	nodeRaws = 0
)

// field tells a field of an object of the list. What an open list leads to is there, so that the heap has nothing to refuse; of no object (ref 0) it is 0.
func (l *List) field(ref uint64, i int) uint64 {
	v, _ := l.heap.Get(ref, i)
	return v
}

// walk goes through the nodes from that one on, one way: by nodeNext or by nodePrevious. The loop's body may take the node that it is told out of the list: it leads on all the same.
func (l *List) walk(node uint64, way int) iter.Seq[uint64] {
	return func(yield func(uint64) bool) {
		for at := node; at != 0; at = l.field(at, way) {
			if !yield(at) {
				return
			}
		}
	}
}

// from goes through all nodes from an end on.
func (l *List) from(front bool) iter.Seq[uint64] {
	if front {
		return l.walk(l.field(l.Ref(), headFirst), nodeNext)
	}
	return l.walk(l.field(l.Ref(), headLast), nodePrevious)
}

// node finds the node of element i, from the nearer end; 0, if there is no such element.
func (l *List) node(i int) uint64 {
	ahead, behind := i, l.Len()-1-i
	if ahead < 0 || behind < 0 {
		return 0
	}
	steps := min(ahead, behind)
	for node := range l.from(ahead <= behind) {
		if steps == 0 {
			return node
		}
		steps--
	}
	return 0
}

// lay makes a node of an element; no other node leads to it yet.
func (l *List) lay(b []byte) (uint64, api.Errno) {
	element, e := blob.New(l.heap, b)
	if e != api.OK {
		return 0, e
	}
	// The node's Alloc may collect, and nothing leads to the blob so far.
	handle, e := l.heap.Root(element)
	if e != api.OK {
		return 0, e
	}
	defer l.heap.Drop(handle)
	node, e := l.heap.Alloc(api.KindNode, nodeRefs, nodeRaws)
	if e != api.OK {
		return 0, e
	}
	element, e = l.heap.At(handle)
	if e != api.OK {
		return 0, e
	}
	return node, l.heap.Set(node, nodeElement, element)
}

// join makes two nodes neighbours; 0 stands for the list's end on that side.
func (l *List) join(ahead, behind uint64) {
	if ahead == 0 {
		l.heap.Set(l.Ref(), headFirst, behind)
	} else {
		l.heap.Set(ahead, nodeNext, behind)
	}
	if behind == 0 {
		l.heap.Set(l.Ref(), headLast, ahead)
	} else {
		l.heap.Set(behind, nodePrevious, ahead)
	}
}

// count makes the list's number of elements greater by n, which may be below 0.
func (l *List) count(n int) {
	l.heap.Set(l.Ref(), headCount, uint64(l.Len()+n))
}
