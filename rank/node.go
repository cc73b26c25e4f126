package rank

import (
	"larder/api"
	"larder/blob"
)

// The fields of the root and of a node; pointers and spans of level k stand k fields behind the last of these. Both are laid alike, so that a way begins at the root as it goes on at a node.
const (
	rootTable  = 0
	nodeMember = 0
	back       = 1 // a node: the one ahead of it; the root: the last node, as the one ahead of the end
	fixedRefs  = 2

	rootCount = 0
	nodeScore = 0
	fixedRaws = 1
)

// stand is a node and where it stands: the root at 0, the node of place i at i + 1, the end (node 0) behind all.
type stand struct {
	node uint64
	at   int
}

// way is a way down through the levels: where it leaves each, level k at k - 1.
type way [api.MaxLevel]stand

// field tells a field of an object of the set. What an open set leads to is there, so that the heap has nothing to refuse; of no object (ref 0) it is 0.
func (r *Rank) field(ref uint64, i int) uint64 {
	v, _ := r.heap.Get(ref, i)
	return v
}

// raw tells a raw field: where the first one stands hangs on the node's level.
func (r *Rank) raw(ref uint64, i int) uint64 {
	_, refs, _, _ := r.heap.Object(ref)
	return r.field(ref, refs+i)
}

func (r *Rank) setRaw(ref uint64, i int, v uint64) {
	_, refs, _, _ := r.heap.Object(ref)
	r.heap.Set(ref, refs+i, v)
}

func (r *Rank) scoreOf(node uint64) int64 { return int64(r.raw(node, nodeScore)) }

// leap follows a pointer.
func (r *Rank) leap(from stand, level int) stand {
	return stand{r.field(from.node, back+level), from.at + int(r.raw(from.node, level))}
}

// lead lays a pointer.
func (r *Rank) lead(from stand, level int, to stand) {
	r.heap.Set(from.node, back+level, to.node)
	r.setRaw(from.node, level, uint64(to.at-from.at))
}

// leadBack lays the way back from a node, or from the end, to what stands ahead of it.
func (r *Rank) leadBack(from, to stand) {
	if from.node == 0 {
		from.node = r.Ref()
	}
	if to.at == 0 { // nobody is led back to the root
		to.node = 0
	}
	r.heap.Set(from.node, back, to.node)
}

// down goes as far as nodes still stand ahead, on the topmost level first.
func (r *Rank) down(ahead func(stand) bool) way {
	var w way
	here := stand{r.Ref(), 0}
	stop := uint64(0) // what was found not to stand ahead: lower levels come to it again
	for level := api.MaxLevel; level > 0; level-- {
	walk:
		for {
			next := r.leap(here, level)
			switch {
			case next.node == stop:
				break walk
			case !ahead(next):
				stop = next.node
				break walk
			}
			here = next
		}
		w[level-1] = here
	}
	return w
}

// wayTo goes to where a member with that score stands, or would.
func (r *Rank) wayTo(score int64, member []byte) way {
	return r.down(func(s stand) bool {
		this := r.scoreOf(s.node)
		return this < score || this == score && r.compare(s.node, member) < 0
	})
}

// compare tells how a node's member stands to that one.
func (r *Rank) compare(node uint64, member []byte) int {
	order, _ := blob.Compare(r.heap, r.field(node, nodeMember), member)
	return order
}
