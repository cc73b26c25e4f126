package space_test

import (
	"fmt"
	"sync"
	"testing"

	"larder/api"
	"larder/chain"
	"larder/space"
)

// panics tells what a function panics with.
func panics(f func()) (fault any) {
	defer func() { fault = recover() }()
	f()
	return nil
}

// filled is a space with a value of each kind at places "0" to "4" of database 0, and one in database 1 that is due at 20.
func filled(t *testing.T) *space.Space {
	t.Helper()
	s := made(t, 2000)
	done(t, s, 5, func() {
		for i, v := range kinds() {
			store(t, s, at(0, fmt.Sprint(i)), v)
		}
		store(t, s, at(1, "due"), text("x"))
		s.SetDeadline(1, []byte("due"), 20)
		s.SetDeadline(0, []byte("1"), 1000)
	})
	return s
}

// upset changes every key of a filled space in one way or another.
func upset(t *testing.T, s *space.Space) {
	t.Helper()
	key := func(i int) []byte { return []byte(fmt.Sprint(i)) }
	store(t, s, at(0, "0"), set("now", "a", "set"))
	l, _ := chain.Open(s.Heap(), edit(t, s, at(0, "1"), api.ValList))
	l.Cut(0, l.Len())
	l.Close()
	fill(t, s.Heap(), hash("z", "new"), edit(t, s, at(0, "2"), api.ValHash), s, at(0, "2"))
	s.Remove(0, key(3))
	s.Move(0, key(4), 3, []byte("away"))
	s.SetDeadline(0, key(2), 77)
	s.SetDeadline(0, key(0), 1)
	edit(t, s, at(0, "4"), api.ValText)
	s.Bind(2, []byte("bound"), api.ValRank, makeAt(t, s.Heap(), ranked(scored("m", 1))))
}

func TestP10_5_TheClock(t *testing.T) {
	s := made(t, 256)
	for _, c := range []struct{ now, want uint64 }{{0, 0}, {5, 5}, {4, 5}, {0, 5}, {6, 6}, {api.MaxTime - 1, api.MaxTime - 1}, {api.MaxTime + 1, api.MaxTime}, {1<<64 - 1, api.MaxTime}, {7, api.MaxTime}} {
		done(t, s, c.now, func() {
			if s.Clock() != c.want {
				t.Errorf("inside a Run at %d the clock is %d, want %d", c.now, s.Clock(), c.want)
			}
		})
		if s.Clock() != c.want {
			t.Errorf("behind a Run at %d the clock is %d, want %d", c.now, s.Clock(), c.want)
		}
	}
	s = made(t, 256)
	wantRun(t, s, 3, 1, func() { s.Fail(1) })
	s.Run(4, func() api.Reply { return api.Bad(api.BadInt) })
	if s.Clock() != 4 {
		t.Errorf("behind Runs that were undone the clock is %d", s.Clock())
	}
	panics(func() { s.Run(9, func() api.Reply { panic("own") }) })
	if s.Clock() != 9 {
		t.Errorf("behind a panic the clock is %d", s.Clock())
	}
}

func TestP10_5_WhatIsDueGoesFirst(t *testing.T) {
	deadlines := []uint64{1, 2, 3, 9, 10, 11, api.MaxTime - 1, api.MaxTime}
	for _, now := range []uint64{0, 1, 2, 9, 10, 11, 12, api.MaxTime - 1, api.MaxTime, 1<<64 - 1} {
		s := made(t, 2000)
		done(t, s, 0, func() {
			store(t, s, at(0, "stays"), text("x"))
			for i, d := range deadlines {
				p := at(i%4, fmt.Sprint(d))
				store(t, s, p, kinds()[i%5])
				wantErr(t, "SetDeadline", s.SetDeadline(p.DB, []byte(p.Key), d), api.OK)
			}
		})
		var gone []api.Place
		left := 1
		for i, d := range deadlines {
			if d <= min(now, api.MaxTime) {
				gone = append(gone, at(i%4, fmt.Sprint(d)))
			} else {
				left++
			}
		}
		check := func() {
			for _, p := range gone {
				wantNothing(t, s, p)
			}
			if n := s.Size(0) + s.Size(1) + s.Size(2) + s.Size(3); n != left {
				t.Errorf("at %d there are %d keys, want %d", now, n, left)
			}
			wantCost(t, s)
		}
		wantRun(t, s, now, 9, func() { check(); s.Fail(9) })
		check()
		if n := len(s.Changed()); n != len(gone) {
			t.Errorf("at %d Changed tells %v, gone are %v", now, s.Changed(), gone)
		}
		for _, p := range s.Changed() {
			wantNothing(t, s, p)
		}
		done(t, s, now, check)
		wantChanged(t, s)
	}
}

// TestP10_5_DeadlinesThatCameAndWent: the next one to pass away is found, however deadlines were laid, taken back, moved and undone before.
func TestP10_5_DeadlinesThatCameAndWent(t *testing.T) {
	s := made(t, 2000)
	key := []byte("k")
	done(t, s, 1, func() { store(t, s, at(0, "k"), text("x")); s.SetDeadline(0, key, 10) })
	wantRun(t, s, 2, 9, func() { s.SetDeadline(0, key, 500); s.Fail(9) })
	wantDeadline(t, s, at(0, "k"), 10)
	wantRun(t, s, 3, 9, func() { s.Remove(0, key); s.Fail(9) })
	wantDeadline(t, s, at(0, "k"), 10)
	done(t, s, 10, func() { wantNothing(t, s, at(0, "k")) })
	done(t, s, 11, func() { store(t, s, at(0, "k"), text("x")); s.SetDeadline(0, key, 20); s.SetDeadline(0, key, 0) })
	done(t, s, 20, func() { s.SetDeadline(0, key, 30); s.Move(0, key, 3, []byte("m")) })
	wantRun(t, s, 25, 9, func() { s.SetDeadline(3, []byte("m"), 26); s.Fail(9) })
	done(t, s, 29, func() { wantDeadline(t, s, at(3, "m"), 30) })
	done(t, s, 29, func() { fill(t, s.Heap(), text("yy"), edit(t, s, at(3, "m"), api.ValText), s, at(3, "m")) })
	done(t, s, 30, func() { wantNothing(t, s, at(3, "m")) })
	wantChanged(t, s, at(3, "m"))
	if s.Cost() != 0 {
		t.Errorf("cost %d", s.Cost())
	}
}

func TestP10_5_ARunInside(t *testing.T) {
	s := filled(t)
	before := picture(s)
	done(t, s, 6, func() {
		r, e := s.Run(99, func() api.Reply {
			t.Error("f is called")
			return api.Status("x")
		})
		if r.Kind != api.ReplyNone || len(r.Text) != 0 || e != api.ErrSpaceBusy || s.Clock() != 6 {
			t.Errorf("%v, %d, clock %d", r, e, s.Clock())
		}
		if _, e := s.Run(99, nil); e != api.ErrSpaceBusy {
			t.Errorf("without f: %d", e)
		}
		wantPicture(t, s, "inside", before)
		store(t, s, at(3, "k"), text("v")) // the Run goes on
	})
	wantChanged(t, s, at(3, "k"))
	done(t, s, 7, func() { s.Remove(3, []byte("k")) })
	wantPicture(t, s, "behind", before)
}

func TestP10_5_NoFunction(t *testing.T) {
	s := filled(t)
	r, e := s.Run(20, nil)
	if r.Kind != api.ReplyNone || r.Num != 0 || len(r.Text) != 0 || len(r.List) != 0 || e != api.OK || s.Clock() != 20 {
		t.Errorf("%v, %d, clock %d", r, e, s.Clock())
	}
	wantChanged(t, s, at(1, "due"))
}

func TestP10_5_TheReplyIsHandedOnAsItIs(t *testing.T) {
	s := made(t, 256)
	for _, kind := range []int{api.ReplyNone, api.ReplyStatus, api.ReplyError, api.ReplyInt, api.ReplyBulk, api.ReplyNil, api.ReplyArray, api.ReplyNilArray, 99, -1} {
		want := api.Reply{Kind: kind, Num: 5, Text: []byte("text"), List: []api.Reply{api.Number(1), api.Bulk([]byte("b"))}}
		r, e := s.Run(1, func() api.Reply { return want })
		if e != api.OK || r.Kind != kind || r.Num != 5 || &r.Text[0] != &want.Text[0] || &r.List[0] != &want.List[0] || len(r.Text) != 4 || len(r.List) != 2 {
			t.Errorf("a reply of kind %d: %v, %d", kind, r, e)
		}
	}
}

func TestP10_5_HollowValuesGo(t *testing.T) {
	s := made(t, 1000)
	for kind := api.ValText; kind <= api.ValRank; kind++ {
		p := at(1, "p")
		done(t, s, 1, func() {
			edit(t, s, p, kind)
			wantValue(t, s, p, api.Value{Kind: kind})
		})
		if kind == api.ValText {
			wantValue(t, s, p, text(""))
			wantChanged(t, s, p)
			done(t, s, 1, func() { s.Remove(1, []byte("p")) })
			continue
		}
		wantNothing(t, s, p)
		wantChanged(t, s)
		done(t, s, 1, func() {
			wantErr(t, "Bind", s.Bind(1, []byte("p"), kind, makeAt(t, s.Heap(), api.Value{Kind: kind})), api.OK)
			wantValue(t, s, p, api.Value{Kind: kind})
		})
		wantNothing(t, s, p)
		wantChanged(t, s)
	}
	// One that was there and is emptied in place.
	done(t, s, 1, func() { store(t, s, at(0, "l"), list("a", "b")) })
	done(t, s, 1, func() {
		l, _ := chain.Open(s.Heap(), edit(t, s, at(0, "l"), api.ValList))
		l.Cut(0, 2)
		l.Close()
		wantValue(t, s, at(0, "l"), list())
		if s.Size(0) != 1 || s.Cost() != 24+3+8 {
			t.Errorf("emptied: size %d, cost %d", s.Size(0), s.Cost())
		}
	})
	wantNothing(t, s, at(0, "l"))
	wantChanged(t, s, at(0, "l"))
	if s.Cost() != 0 || s.Size(0) != 0 {
		t.Errorf("cost %d, size %d", s.Cost(), s.Size(0))
	}
}

// worth stores texts under keys of one letter that cost just so many words together.
func worth(t *testing.T, s *space.Space, words int) {
	t.Helper()
	for i := 0; words > 0; i++ {
		this := words
		if this > 541 {
			this = min(541, words-29) // the next one costs 29 at least
		}
		store(t, s, at(i%4, string(rune('A'+i))), text(wide(8*(this-29))))
		words -= this
	}
}

// TestP10_5_TheQuota: what counts is the cost behind the Run, hollow values gone.
func TestP10_5_TheQuota(t *testing.T) {
	for _, quota := range []int{256, 300, 5000, 16384} {
		s := made(t, quota)
		done(t, s, 1, func() {
			edit(t, s, at(2, "hollow"), api.ValRank)
			store(t, s, at(3, "gone"), text(wide(4096)))
			worth(t, s, quota)
			if s.Cost() <= quota {
				t.Errorf("inside: cost %d", s.Cost())
			}
			s.Remove(3, []byte("gone"))
		})
		if s.Cost() != quota {
			t.Errorf("cost %d, want %d", s.Cost(), quota)
		}
		wantCost(t, s)
		before := picture(s)
		wantRun(t, s, 1, api.ErrSpaceFull, func() { store(t, s, at(0, "x"), text("")) })
		wantPicture(t, s, "above the quota", before)
		wantChanged(t, s)
		// One word more is one too many.
		v, _ := s.Value(0, []byte("A"))
		wantRun(t, s, 1, api.ErrSpaceFull, func() {
			s.Remove(0, []byte("A"))
			store(t, s, at(0, "A"), list())
			store(t, s, at(0, "A.......B"), text(string(v.Text)))
		})
		wantPicture(t, s, "one word above the quota", before)
		done(t, s, 1, func() { s.Move(0, []byte("A"), 3, []byte("A.......")) })
		if s.Cost() != quota {
			t.Errorf("cost %d, want %d", s.Cost(), quota)
		}
		wantChanged(t, s, at(0, "A"), at(3, "A......."))
	}
}

func TestP10_5_AllIsUndone(t *testing.T) {
	s := filled(t)
	before := picture(s)
	ends := map[string]func(now uint64){
		"Fail": func(now uint64) { wantRun(t, s, now, 77, func() { upset(t, s); s.Fail(77) }) },
		"an error": func(now uint64) {
			r, e := s.Run(now, func() api.Reply { upset(t, s); return api.Bad(api.BadKind) })
			if r.Kind != api.ReplyError || string(r.Text) != api.Text(api.BadKind) || e != api.OK {
				t.Errorf("%v, %d", r, e)
			}
		},
		"the quota": func(now uint64) {
			wantRun(t, s, now, api.ErrSpaceFull, func() {
				upset(t, s)
				store(t, s, at(0, "big"), list(wide(4096), wide(4096), wide(4096), wide(4096)))
			})
		},
		"a panic": func(now uint64) {
			if got := panics(func() { s.Run(now, func() api.Reply { upset(t, s); panic("own") }) }); got != "own" {
				t.Errorf("the panic: %v", got)
			}
		},
	}
	for what, end := range ends {
		end(6)
		wantPicture(t, s, what, before)
		wantChanged(t, s)
		if kind, _ := s.Find(0, []byte("1")); kind != api.ValList {
			t.Errorf("%s: kind %d", what, kind)
		}
	}
	// Behind all of this the space goes on.
	done(t, s, 6, func() { upset(t, s) })
	wantChanged(t, s, at(0, "0"), at(0, "1"), at(0, "2"), at(0, "3"), at(0, "4"), at(2, "bound"), at(3, "away"))
}

func TestP10_5_UndoneDoesNotBringBackWhatWasDue(t *testing.T) {
	for _, end := range []string{"Fail", "error", "quota", "panic"} {
		s := filled(t)
		panics(func() {
			s.Run(20, func() api.Reply {
				wantNothing(t, s, at(1, "due"))
				store(t, s, at(1, "due"), text("x"))
				s.SetDeadline(1, []byte("due"), 21)
				switch end {
				case "Fail":
					s.Fail(1)
				case "quota":
					store(t, s, at(0, "big"), list(wide(4096), wide(4096), wide(4096), wide(4096)))
				case "panic":
					panic("own")
				}
				return api.Bad(api.BadKey)
			})
		})
		wantNothing(t, s, at(1, "due"))
		wantChanged(t, s, at(1, "due"))
		wantCost(t, s)
	}
}

func TestP10_6_FailDoesNotComeBack(t *testing.T) {
	s := filled(t)
	for _, e := range []api.Errno{1, api.ErrSpaceBusy, api.ErrHeapFull, api.BadOOM, -1, 1 << 40} {
		cleaned := false
		wantRun(t, s, 6, e, func() {
			defer func() { cleaned = true }()
			func() { s.Fail(e) }()
			t.Errorf("Fail(%d) comes back", e)
		})
		if !cleaned {
			t.Errorf("Fail(%d): what f deferred was not done", e)
		}
	}
}

func TestP10_6_FailThatDoesNothing(t *testing.T) {
	s := filled(t)
	s.Fail(5)
	s.Fail(api.OK)
	done(t, s, 6, func() {
		s.Fail(api.OK)
		store(t, s, at(3, "k"), text("v"))
	})
	wantChanged(t, s, at(3, "k"))
	wantRun(t, s, 6, 5, func() { s.Fail(5) })
	s.Fail(5)
	panics(func() { s.Run(6, func() api.Reply { panic("own") }) })
	s.Fail(5)
	done(t, s, 6, func() {}) // the Fail ahead of it is forgotten
}

func TestP10_6_AFailThatIsRecovered(t *testing.T) {
	s := filled(t)
	before := picture(s)
	fail := func(e api.Errno) {
		if panics(func() { s.Fail(e) }) == nil {
			t.Errorf("Fail(%d) comes back", e)
		}
	}
	for _, reply := range []api.Reply{{}, api.Status("OK"), api.Bad(api.BadKey)} {
		r, e := s.Run(6, func() api.Reply {
			upset(t, s)
			fail(31)
			fail(32)
			store(t, s, at(2, "more"), list("x"))
			if _, e := s.Run(9, nil); e != api.ErrSpaceBusy {
				t.Errorf("the Run is over: %d", e)
			}
			s.Fail(api.OK)
			return reply
		})
		if r.Kind != api.ReplyNone || len(r.Text) != 0 || e != 31 {
			t.Errorf("%v, %d", r, e)
		}
		wantPicture(t, s, "given up", before)
		wantChanged(t, s)
	}
	wantRun(t, s, 6, 33, func() { fail(33); s.Fail(34) })
	// Fail's own panic that f hands on is still Fail's.
	wantRun(t, s, 6, 35, func() { panic(panics(func() { s.Fail(35) })) })
}

func TestP10_6_APanicOfItsOwn(t *testing.T) {
	list := []int{1}
	var nobody *api.Value
	for what, c := range map[string]struct {
		f    func(s *space.Space)
		want func(fault any) bool
	}{
		"a text":       {func(*space.Space) { panic("own") }, func(p any) bool { return p == any("own") }},
		"an error":     {func(*space.Space) { panic(api.BadKey) }, func(p any) bool { return p == any(api.BadKey) }},
		"a list":       {func(*space.Space) { panic(list) }, func(p any) bool { l, ok := p.([]int); return ok && &l[0] == &list[0] }},
		"of the run":   {func(*space.Space) { nobody.Kind++ }, func(p any) bool { _, ok := p.(error); return ok }},
		"behind Fail":  {func(s *space.Space) { panics(func() { s.Fail(7) }); panic(8) }, func(p any) bool { return p == any(8) }},
		"while failed": {func(s *space.Space) { defer func() { panic(9) }(); s.Fail(7) }, func(p any) bool { return p == any(9) }},
	} {
		s := filled(t)
		done(t, s, 6, func() {})
		s.Run(20, nil)
		before := picture(s)
		done(t, s, 20, func() { store(t, s, at(1, "due"), text("y")); s.SetDeadline(1, []byte("due"), 30) })
		fault := panics(func() {
			s.Run(30, func() api.Reply {
				upset(t, s)
				c.f(s)
				return api.Reply{}
			})
		})
		if !c.want(fault) {
			t.Errorf("%s: Run panics with %v", what, fault)
		}
		wantPicture(t, s, what, before)
		wantChanged(t, s, at(1, "due"))
		if s.Clock() != 30 {
			t.Errorf("%s: clock %d", what, s.Clock())
		}
		wantErr(t, what+": Store", s.Store(0, nil, text("")), api.ErrSpaceIdle)
		done(t, s, 30, func() { store(t, s, at(3, "next"), text("n")) })
		wantChanged(t, s, at(3, "next"))
	}
}

func TestP10_6_AGoroutineThatEndsInsideF(t *testing.T) {
	s := filled(t)
	before := picture(s)
	var w sync.WaitGroup
	w.Go(func() {
		probe := &testing.T{}
		s.Run(6, func() api.Reply {
			upset(t, s)
			probe.SkipNow() // it ends the goroutine that calls it
			return api.Reply{}
		})
		t.Error("the goroutine goes on")
	})
	w.Wait()
	wantPicture(t, s, "behind it", before)
	done(t, s, 6, func() {})
}

func TestP10_6_OneSpaceInsideAnother(t *testing.T) {
	a, b := filled(t), filled(t)
	before, before2 := picture(a), picture(b)
	// The outer one's Fail, called inside the inner one's Run, ends both; for the inner one it is a panic of f's own.
	wantRun(t, a, 6, 41, func() {
		upset(t, a)
		b.Run(7, func() api.Reply {
			upset(t, b)
			a.Fail(41)
			return api.Reply{}
		})
		t.Error("the outer f goes on")
	})
	wantPicture(t, a, "the outer one", before)
	wantPicture(t, b, "the inner one", before2)
	wantErr(t, "the inner one's Run is over", b.Store(0, nil, text("")), api.ErrSpaceIdle)
	// The inner one's own Fail ends the inner one alone.
	done(t, a, 8, func() {
		store(t, a, at(3, "k"), text("v"))
		wantRun(t, b, 8, 42, func() { upset(t, b); b.Fail(42) })
	})
	wantChanged(t, a, at(3, "k"))
	wantPicture(t, b, "the inner one", before2)
}
