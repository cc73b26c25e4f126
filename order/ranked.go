package order

import (
	"larder/api"
	"larder/rank"
)

// ranked is the ranked set of a key, open on the heap. The zero one is empty.
type ranked struct{ set *rank.Rank }

func (r ranked) size() int {
	if r.set == nil {
		return 0
	}
	return r.set.Len()
}

// score tells a member's score, and whether the member is there.
func (r ranked) score(member []byte) (int64, bool) {
	if r.set == nil {
		return 0, false
	}
	return r.set.Score(member)
}

// place tells how many stand ahead of a member in the order, and whether the member is there.
func (r ranked) place(member []byte) (int, bool) {
	if r.set == nil {
		return 0, false
	}
	return r.set.Place(member)
}

// all tells the members in their order.
func (r ranked) all() []api.Scored { return r.some(0, r.size()) }

// some tells so many members from a place on, in their order.
func (r ranked) some(from, n int) []api.Scored {
	if r.set == nil {
		return nil
	}
	return r.set.Slice(from, n)
}

// take takes a member away, and tells whether it was there.
func (r ranked) take(member []byte) bool {
	if r.set == nil {
		return false
	}
	gone, _ := r.set.Remove(member)
	return gone
}

// takeLeast takes so many from the beginning of the order, or all there are, and tells them in the order.
func (r ranked) takeLeast(n int64) []api.Scored {
	return r.takeAll(r.some(0, r.most(n)))
}

// takeGreatest takes so many from the end of the order, or all there are, and tells them in the reversed order.
func (r ranked) takeGreatest(n int64) []api.Scored {
	count := r.most(n)
	return r.takeAll(reversed(r.some(r.size()-count, count)))
}

// most tells a number, or how many members there are, if that is less.
func (r ranked) most(n int64) int { return int(min(n, int64(r.size()))) }

// takeAll takes members away, and tells them.
func (r ranked) takeAll(members []api.Scored) []api.Scored {
	for _, m := range members {
		r.take(m.Member)
	}
	return members
}
