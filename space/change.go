package space

import "larder/api"

// refusal tells why a place may not be changed now; OK, if it may.
func (s *Space) refusal(db int, key []byte) api.Errno {
	if !s.running {
		return api.ErrSpaceIdle
	}
	return check(db, key)
}

// Edit tells where a value lies that is to be changed in place, and makes an empty one if there is none; it may collect.
func (s *Space) Edit(db int, key []byte, kind int) (uint64, api.Errno) {
	if e := s.refusal(db, key); e != api.OK {
		return 0, e
	}
	p := placeOf(db, key)
	found := s.look(p)
	if objectKind(kind) == 0 || found.kind != api.ValNone && found.kind != kind {
		return 0, api.ErrSpaceKind
	}
	s.touch(p)
	if found.kind == api.ValNone {
		if e := s.set(p, api.Value{Kind: kind}, 0); e != api.OK {
			return 0, e
		}
	}
	return s.look(p).ref, api.OK
}

// Bind makes an object the value of a key; it may collect.
func (s *Space) Bind(db int, key []byte, kind int, ref uint64) api.Errno {
	if e := s.refusal(db, key); e != api.OK {
		return e
	}
	want := objectKind(kind)
	if want == 0 {
		return api.ErrSpaceKind
	}
	if is, _, _, e := s.heap.Object(ref); e != api.OK || is != want {
		return api.ErrSpaceRef
	}
	p := placeOf(db, key)
	s.touch(p)
	return s.put(p, entry{kind, ref, s.look(p).deadline})
}

// Store lays a whole value under a key, without a deadline; it may collect.
func (s *Space) Store(db int, key []byte, v api.Value) api.Errno {
	if e := s.refusal(db, key); e != api.OK {
		return e
	}
	if objectKind(v.Kind) == 0 {
		return api.ErrSpaceKind
	}
	if !isSound(v) {
		return api.ErrSpaceValue
	}
	p := placeOf(db, key)
	s.touch(p)
	if isHollow(v) {
		s.take(p)
		return api.OK
	}
	return s.set(p, v, 0)
}

// set lays a value and a deadline down at a place.
func (s *Space) set(p api.Place, v api.Value, deadline uint64) api.Errno {
	ref, e := s.lay(v)
	if e != api.OK {
		return e
	}
	return s.put(p, entry{v.Kind, ref, deadline})
}

// Remove takes a key away; it may collect.
func (s *Space) Remove(db int, key []byte) bool {
	if s.refusal(db, key) != api.OK {
		return false
	}
	p := placeOf(db, key)
	if s.look(p).kind == api.ValNone {
		return false
	}
	s.touch(p)
	s.take(p)
	return true
}

// Move lays value and deadline of a key under another key; it may collect.
func (s *Space) Move(db int, key []byte, db2 int, key2 []byte) bool {
	if s.refusal(db, key) != api.OK || s.refusal(db2, key2) != api.OK {
		return false
	}
	from, to := placeOf(db, key), placeOf(db2, key2)
	found := s.look(from)
	if found.kind == api.ValNone {
		return false
	}
	if from == to {
		return true
	}
	s.touch(from)
	s.touch(to)
	if s.put(to, found) != api.OK {
		return false
	}
	s.take(from)
	return true
}

// SetDeadline changes a key's deadline, 0: none; it may collect.
func (s *Space) SetDeadline(db int, key []byte, at uint64) api.Errno {
	if e := s.refusal(db, key); e != api.OK {
		return e
	}
	if at > api.MaxTime {
		return api.ErrSpaceTime
	}
	p := placeOf(db, key)
	found := s.look(p)
	if found.kind == api.ValNone {
		return api.ErrSpaceNone
	}
	s.touch(p)
	if at != 0 && at <= s.clock {
		s.take(p)
		return api.OK
	}
	found.deadline = at
	return s.put(p, found)
}
