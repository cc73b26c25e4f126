package space

import "larder/api"

// entry is what lies under a key in its database's table.
type entry struct {
	kind     int
	ref      uint64
	deadline uint64 // 0: none
}

// check tells what is wrong with a place.
func check(db int, key []byte) api.Errno {
	if db < 0 || db >= api.MaxDB {
		return api.ErrSpaceDB
	}
	if len(key) > api.MaxText {
		return api.ErrSpaceKey
	}
	return api.OK
}

func placeOf(db int, key []byte) api.Place { return api.Place{DB: db, Key: string(key)} }

// look tells what lies at a place; of the kind ValNone, if nothing does.
func (s *Space) look(p api.Place) entry {
	ref, kind, deadline, _ := s.keys[p.DB].Get([]byte(p.Key))
	return entry{int(kind), ref, deadline}
}

// put lays an entry down. Where the key is there already this needs no room.
func (s *Space) put(p api.Place, n entry) api.Errno {
	_, e := s.keys[p.DB].Put([]byte(p.Key), n.ref, uint64(n.kind), n.deadline)
	if e == api.OK && n.deadline != 0 {
		s.soonest = min(s.soonest, n.deadline)
	}
	return e
}

// take takes a key away, if it is there.
func (s *Space) take(p api.Place) { s.keys[p.DB].Delete([]byte(p.Key)) }

// find tells what lies under a key; of the kind ValNone, if nothing does or it is no place.
func (s *Space) find(db int, key []byte) entry {
	if check(db, key) != api.OK {
		return entry{}
	}
	return s.look(placeOf(db, key))
}
