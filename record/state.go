package record

import (
	"larder/api"
	"larder/space"
)

// state is all that a snapshot tells, as plain data.
type state struct {
	seq   int64
	clock uint64
	keys  [api.MaxDB][]holding
}

// holding is what lies under a key.
type holding struct {
	key      []byte
	deadline uint64 // 0: none
	value    api.Value
}

// stateOf reads all that a space holds.
func stateOf(s *space.Space, seq int64) state {
	found := state{seq: seq, clock: s.Clock()}
	for db := range api.MaxDB {
		for _, key := range s.Keys(db) {
			deadline, _ := s.Deadline(db, key)
			value, _ := s.Value(db, key)
			found.keys[db] = append(found.keys[db], holding{key, deadline, value})
		}
	}
	return found
}

// fill lays a state into a new space, if its quota has room for it.
func (t state) fill(s *space.Space) bool {
	_, e := s.Run(t.clock, func() api.Reply {
		for db, keys := range t.keys {
			for _, h := range keys {
				// The heap has room for far more than the quota.
				if s.Store(db, h.key, h.value) != api.OK {
					s.Fail(api.ErrRecordRoom)
				}
				s.SetDeadline(db, h.key, h.deadline)
			}
		}
		return api.Reply{}
	})
	return e == api.OK
}
