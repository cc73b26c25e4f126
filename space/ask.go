package space

import (
	"slices"

	"larder/api"
)

// Find tells a key's kind of value and where the value lies now.
func (s *Space) Find(db int, key []byte) (kind int, ref uint64) {
	found := s.find(db, key)
	return found.kind, found.ref
}

// Value tells a whole value.
func (s *Space) Value(db int, key []byte) (api.Value, api.Errno) {
	if e := check(db, key); e != api.OK {
		return api.Value{}, e
	}
	found := s.find(db, key)
	if found.kind == api.ValNone {
		return api.Value{}, api.ErrSpaceNone
	}
	return s.read(found), api.OK
}

// Deadline tells a key's deadline, 0: none.
func (s *Space) Deadline(db int, key []byte) (uint64, bool) {
	found := s.find(db, key)
	return found.deadline, found.kind != api.ValNone
}

// Keys tells the keys of a database, sorted by their bytes.
func (s *Space) Keys(db int) [][]byte {
	if check(db, nil) != api.OK {
		return nil
	}
	return s.keys[db].Keys()
}

// Scan tells some keys of a database in hash order, and where to go on.
func (s *Space) Scan(db int, cursor uint64, n int) (uint64, [][]byte) {
	if check(db, nil) != api.OK {
		return 0, nil
	}
	return s.keys[db].Scan(cursor, n)
}

// Size tells how many keys a database has.
func (s *Space) Size(db int) int {
	if check(db, nil) != api.OK {
		return 0
	}
	return s.keys[db].Len()
}

// Cost tells what all keys cost, in words.
func (s *Space) Cost() int {
	sum := s.settled
	// What a Run has touched may be changed in place behind the space's back: it is counted anew.
	for p := range s.touched {
		sum += cost(p.Key, s.state(p).value)
	}
	return sum
}

// CostOf tells what a key costs, in words; 0: there is none.
func (s *Space) CostOf(db int, key []byte) int {
	return cost(string(key), s.read(s.find(db, key)))
}

// Changed tells the places that differ behind the last Run from before it.
func (s *Space) Changed() []api.Place { return slices.Clone(s.changed) }
