package chain

import (
	"larder/api"
	"larder/blob"
)

// Push adds an element at the front or at the back; it may collect.
func (l *List) Push(front bool, b []byte) api.Errno {
	if front {
		return l.Insert(0, b)
	}
	return l.Insert(l.Len(), b)
}

// Pop takes the element at the front or at the back away.
func (l *List) Pop(front bool) ([]byte, api.Errno) {
	if l.handle == 0 {
		return nil, api.ErrChainShut
	}
	if l.Len() == 0 {
		return nil, api.ErrChainEmpty
	}
	i := 0
	if !front {
		i = l.Len() - 1
	}
	b, e := l.Get(i)
	if e != api.OK {
		return nil, e
	}
	return b, l.Cut(i, 1)
}

// Set changes element i; it may collect.
func (l *List) Set(i int, b []byte) api.Errno {
	if e := l.span(i, 1); e != api.OK {
		return e
	}
	element, e := blob.New(l.heap, b)
	if e != api.OK {
		return e
	}
	// The node is looked for behind the Alloc, which may have moved it.
	return l.heap.Set(l.node(i), nodeElement, element)
}

// Insert adds an element ahead of element i, or at the back; it may collect.
func (l *List) Insert(i int, b []byte) api.Errno {
	if e := l.span(i, 0); e != api.OK {
		return e
	}
	node, e := l.lay(b)
	if e != api.OK {
		return e
	}
	// Its neighbours are looked for behind the Allocs, which may have moved them.
	behind := l.node(i)
	ahead := l.field(behind, nodePrevious)
	if behind == 0 {
		ahead = l.field(l.Ref(), headLast)
	}
	l.join(ahead, node)
	l.join(node, behind)
	l.count(1)
	return api.OK
}

// Cut takes n elements away from element i on.
func (l *List) Cut(i, n int) api.Errno {
	if e := l.span(i, n); e != api.OK {
		return e
	}
	l.join(l.node(i-1), l.node(i+n))
	l.count(-n)
	return api.OK
}

// Strike takes elements equal to b away, at most so many, from that end on, and tells how many.
func (l *List) Strike(front bool, most int, b []byte) (int, api.Errno) {
	if l.handle == 0 {
		return 0, api.ErrChainShut
	}
	taken := 0
	for node := range l.from(front) {
		if taken >= most {
			break
		}
		if l.equal(node, b) {
			l.join(l.field(node, nodePrevious), l.field(node, nodeNext))
			taken++
		}
	}
	l.count(-taken)
	return taken, api.OK
}

// equal tells whether a node's element is b.
func (l *List) equal(node uint64, b []byte) bool {
	order, e := blob.Compare(l.heap, l.field(node, nodeElement), b)
	return e == api.OK && order == 0
}
