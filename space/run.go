package space

import "larder/api"

// givenUp is what Fail panics with. It names the space: one space's Run may be under way inside another's.
type givenUp struct{ space *Space }

// Run carries f out as one command: whole, or not at all; it may collect.
func (s *Space) Run(now uint64, f func() api.Reply) (api.Reply, api.Errno) {
	if s.running {
		return api.Reply{}, api.ErrSpaceBusy
	}
	s.begin(now)
	reply := s.call(f)
	if s.failed != api.OK {
		s.undo()
		return api.Reply{}, s.failed
	}
	if reply.Kind == api.ReplyError {
		s.undo()
		return reply, api.OK
	}
	sum := s.sift()
	if sum > s.quota {
		s.undo()
		return api.Reply{}, api.ErrSpaceFull
	}
	s.end(sum)
	return reply, api.OK
}

// Fail gives up the command that is running; it may collect.
func (s *Space) Fail(e api.Errno) {
	if !s.running || e == api.OK {
		return
	}
	if s.failed == api.OK {
		s.failed = e
	}
	panic(givenUp{s})
}

// call carries f out up to its end or to a Fail. Where f is left in another way the Run is over, and a panic goes on.
func (s *Space) call(f func() api.Reply) (reply api.Reply) {
	if f == nil {
		return api.Reply{}
	}
	answered := false
	defer func() {
		if answered {
			return
		}
		fault := recover()
		if fault == any(givenUp{s}) {
			return
		}
		s.undo()
		// Without a panic it is f's goroutine that ends here, which goes on by itself.
		if fault != nil {
			panic(fault)
		}
	}()
	reply = f()
	answered = true
	return reply
}

// begin moves the clock and takes away what is due.
func (s *Space) begin(now uint64) {
	s.running, s.failed, s.changed = true, api.OK, nil
	s.clock = max(s.clock, min(now, api.MaxTime))
	if s.soonest <= s.clock {
		s.expire()
	}
}

// expire takes the keys away whose deadline has come.
func (s *Space) expire() {
	s.soonest = never
	for db, keys := range s.keys {
		for _, key := range keys.Keys() {
			p := placeOf(db, key)
			switch at := s.look(p).deadline; {
			case at == 0:
			case at > s.clock:
				s.soonest = min(s.soonest, at)
			default:
				s.touch(p)
				s.touched[p] = past{due: true}
				s.take(p)
			}
		}
	}
}

// end closes a Run behind which all keys cost so much. The places that it has touched and not let go of have changed.
func (s *Space) end(sum int) {
	s.settled = sum
	s.changed = s.places()
	clear(s.touched)
	s.running = false
}
