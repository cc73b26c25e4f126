package space

import (
	"cmp"
	"maps"
	"slices"

	"larder/api"
)

// past is how a place was ahead of what a Run did there.
type past struct {
	value    api.Value // in plain memory, as what lies on the heap may be changed in place; of the kind ValNone: nothing was there
	deadline uint64
	due      bool // the key went because the clock moved: it does not come back, and the place has changed whatever lies there now
}

// state tells how a place is now.
func (s *Space) state(p api.Place) past {
	found := s.look(p)
	return past{value: s.read(found), deadline: found.deadline}
}

// isAsWas tells whether nothing has changed at a place.
func isAsWas(was, now past) bool {
	return !was.due && was.deadline == now.deadline && same(was.value, now.value)
}

// touch lays down how a place is, unless the Run has touched it before.
func (s *Space) touch(p api.Place) {
	if _, before := s.touched[p]; before {
		return
	}
	was := s.state(p)
	s.touched[p] = was
	s.settled -= cost(p.Key, was.value)
}

// settle lets go of a place that is as it was.
func (s *Space) settle(p api.Place) {
	s.settled += cost(p.Key, s.touched[p].value)
	delete(s.touched, p)
}

// places tells what the Run has touched and not let go of, sorted.
func (s *Space) places() []api.Place {
	return slices.SortedFunc(maps.Keys(s.touched), func(a, b api.Place) int {
		return cmp.Or(cmp.Compare(a.DB, b.DB), cmp.Compare(a.Key, b.Key))
	})
}

// sift takes the keys away whose values have no elements, lets go of the places that are as they were, and tells what all keys cost.
func (s *Space) sift() int {
	sum := 0
	for _, p := range s.places() {
		now := s.state(p)
		if isHollow(now.value) {
			s.take(p)
			now = past{}
		}
		if isAsWas(s.touched[p], now) {
			s.settle(p)
			continue
		}
		sum += cost(p.Key, now.value)
	}
	return s.settled + sum
}

// undo makes every place what it was when f was called, and closes the Run.
func (s *Space) undo() {
	s.sift()
	left := s.places()
	// All that is new goes first: so what was there has the room that it had.
	for _, p := range left {
		s.take(p)
	}
	for _, p := range left {
		s.restore(p)
	}
	s.end(s.settled)
}

// restore lays down again what was at a place that is empty now.
func (s *Space) restore(p api.Place) {
	was := s.touched[p]
	if was.due {
		return
	}
	// Only what the caller holds on the heap can leave too little room: then the place has changed.
	if was.value.Kind != api.ValNone && s.set(p, was.value, was.deadline) != api.OK {
		return
	}
	s.settle(p)
}
