package rank

import (
	"larder/api"
	"larder/blob"
)

// Add adds a member or changes its score; it may collect.
func (r *Rank) Add(member []byte, score int64, level int) (bool, api.Errno) {
	if r.handle == 0 {
		return false, api.ErrRankShut
	}
	if level < 1 || level > api.MaxLevel {
		return false, api.ErrRankLevel
	}
	if len(member) > api.MaxText {
		return false, api.ErrRankLong
	}
	was, there := r.Score(member)
	if !there {
		return r.enter(member, score, level)
	}
	if was == score {
		return false, api.OK
	}
	return false, r.move(member, was, score, level)
}

// enter puts a new member in, and tells that it did.
func (r *Rank) enter(member []byte, score int64, level int) (bool, api.Errno) {
	text, e := blob.New(r.heap, member)
	if e != api.OK {
		return false, e
	}
	held, e := r.raise(text, score, level)
	if e != api.OK {
		return false, e
	}
	defer r.heap.Drop(held)
	added, e := r.scores.Put(member, 0, uint64(score), 0)
	if e != api.OK {
		return false, e
	}
	r.link(held, r.wayTo(score, member), level)
	return added, api.OK
}

// move gives a member that is there another score, and a node of another level.
func (r *Rank) move(member []byte, was, score int64, level int) api.Errno {
	old := r.leap(r.wayTo(was, member)[0], 1)
	held, e := r.raise(r.field(old.node, nodeMember), score, level)
	if e != api.OK {
		return e
	}
	defer r.heap.Drop(held)
	if _, e = r.scores.Put(member, 0, uint64(score), 0); e != api.OK {
		return e
	}
	r.unlink(r.wayTo(was, member))
	r.link(held, r.wayTo(score, member), level)
	return api.OK
}

// raise makes a node of a member's blob, not linked yet, and tells the handle that holds it.
func (r *Rank) raise(text uint64, score int64, level int) (int, api.Errno) {
	// The node's Alloc may collect, and it may be that nothing leads to the blob so far.
	held, e := r.heap.Root(text)
	if e != api.OK {
		return 0, e
	}
	node, e := r.heap.Alloc(api.KindTower, fixedRefs+level, fixedRaws+level)
	if e != api.OK {
		r.heap.Drop(held)
		return 0, e
	}
	text, _ = r.heap.At(held)
	r.heap.Set(node, nodeMember, text)
	r.setRaw(node, nodeScore, uint64(score))
	r.heap.Put(held, node)
	return held, api.OK
}

// link puts the node that a handle holds in at the end of a way to its place.
func (r *Rank) link(held int, w way, height int) {
	node, _ := r.heap.At(held)
	here := stand{node, w[0].at + 1}
	r.leadBack(here, w[0])
	r.leadBack(r.leap(w[0], 1), here)
	for i, from := range w {
		next := r.leap(from, i+1)
		next.at++
		if i < height {
			r.lead(here, i+1, next)
			next = here
		}
		r.lead(from, i+1, next)
	}
	r.count(1)
}

// unlink takes the node at the end of a way to it out.
func (r *Rank) unlink(w way) {
	gone := r.leap(w[0], 1)
	r.leadBack(r.leap(gone, 1), w[0])
	for i, from := range w {
		next := r.leap(from, i+1)
		if next.node == gone.node {
			next = r.leap(next, i+1)
		}
		next.at--
		r.lead(from, i+1, next)
	}
	r.count(-1)
}

// count lays down that there are so many members more.
func (r *Rank) count(more int) { r.setRaw(r.Ref(), rootCount, uint64(r.Len()+more)) }

// Remove takes a member away; it may collect.
func (r *Rank) Remove(member []byte) (bool, api.Errno) {
	if r.handle == 0 {
		return false, api.ErrRankShut
	}
	score, there := r.Score(member)
	if !there {
		return false, api.OK
	}
	r.scores.Delete(member)
	// Looked for behind Delete, which may collect.
	r.unlink(r.wayTo(score, member))
	return true, api.OK
}
