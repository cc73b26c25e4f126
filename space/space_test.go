package space_test

import (
	"fmt"
	"slices"
	"strings"
	"testing"

	"larder/api"
	"larder/blob"
	"larder/chain"
	"larder/heap"
	"larder/rank"
	"larder/space"
	"larder/table"
	"larder/word"
)

const seed = 7

func made(t *testing.T, quota int) *space.Space {
	t.Helper()
	s, e := space.New(quota, seed)
	if s == nil || e != api.OK {
		t.Fatalf("New(%d): %v, %d", quota, s, e)
	}
	return s
}

func at(db int, key string) api.Place { return api.Place{DB: db, Key: key} }

func wide(n int) string { return strings.Repeat("w", n) }

func lines(texts []string) [][]byte {
	var found [][]byte
	for _, s := range texts {
		found = append(found, []byte(s))
	}
	return found
}

func text(s string) api.Value { return api.Value{Kind: api.ValText, Text: []byte(s)} }

func list(l ...string) api.Value { return api.Value{Kind: api.ValList, List: lines(l)} }

func set(l ...string) api.Value { return api.Value{Kind: api.ValSet, List: lines(l)} }

// hash takes fields and their values by turns.
func hash(l ...string) api.Value {
	v := api.Value{Kind: api.ValHash}
	for i := 0; i < len(l); i += 2 {
		v.Pairs = append(v.Pairs, api.Pair{Field: []byte(l[i]), Value: []byte(l[i+1])})
	}
	return v
}

func scored(member string, score int64) api.Scored {
	return api.Scored{Member: []byte(member), Score: score}
}

func ranked(l ...api.Scored) api.Value { return api.Value{Kind: api.ValRank, Ranked: l} }

// kinds is a value of each kind, each as Value tells it.
func kinds() []api.Value {
	return []api.Value{text("abc"), list("b", "a", "b"), hash("x", "1", "y", ""), set("", "m", "n"), ranked(scored("r", -1), scored("p", 2), scored("q", 2))}
}

// show tells a value as a text that is the same for the same values.
func show(v api.Value) string {
	var b strings.Builder
	fmt.Fprintf(&b, "%d %q %q %q", v.Kind, v.Text, v.List, v.Pairs)
	for _, m := range v.Ranked {
		fmt.Fprintf(&b, " %q:%d", m.Member, m.Score)
	}
	return b.String()
}

// brief cuts a text that is to be read by somebody.
func brief(s string) string {
	if len(s) > 400 {
		return s[:400] + " .."
	}
	return s
}

// picture tells all that a space holds.
func picture(s *space.Space) string {
	var b strings.Builder
	for db := range api.MaxDB {
		for _, key := range s.Keys(db) {
			v, _ := s.Value(db, key)
			deadline, _ := s.Deadline(db, key)
			fmt.Fprintf(&b, "%d %q %d: %s\n", db, key, deadline, show(v))
		}
	}
	fmt.Fprintf(&b, "cost %d", s.Cost())
	return b.String()
}

// done is a Run that is carried out.
func done(t *testing.T, s *space.Space, now uint64, f func()) {
	t.Helper()
	wantRun(t, s, now, api.OK, f)
}

// wantRun is a Run whose reply is a number, and the error that it is to answer.
func wantRun(t *testing.T, s *space.Space, now uint64, want api.Errno, f func()) {
	t.Helper()
	r, e := s.Run(now, func() api.Reply {
		f()
		return api.Number(42)
	})
	kind, num := api.ReplyInt, int64(42)
	if want != api.OK {
		kind, num = api.ReplyNone, 0
	}
	if e != want || r.Kind != kind || r.Num != num {
		t.Fatalf("Run at %d answers %v, %d; want %d", now, r, e, want)
	}
}

func wantErr(t *testing.T, what string, got, want api.Errno) {
	t.Helper()
	if got != want {
		t.Errorf("%s: %d, want %d", what, got, want)
	}
}

func store(t *testing.T, s *space.Space, p api.Place, v api.Value) {
	t.Helper()
	wantErr(t, fmt.Sprintf("Store at %.40v", p), s.Store(p.DB, []byte(p.Key), v), api.OK)
}

func edit(t *testing.T, s *space.Space, p api.Place, kind int) uint64 {
	t.Helper()
	ref, e := s.Edit(p.DB, []byte(p.Key), kind)
	if ref == 0 || e != api.OK {
		t.Fatalf("Edit at %.40v as %d: %d, %d", p, kind, ref, e)
	}
	return ref
}

func wantValue(t *testing.T, s *space.Space, p api.Place, want api.Value) {
	t.Helper()
	v, e := s.Value(p.DB, []byte(p.Key))
	if e != api.OK || show(v) != show(want) {
		t.Errorf("at %.40v lies %s, %d; want %s", p, brief(show(v)), e, brief(show(want)))
	}
	kind, ref := s.Find(p.DB, []byte(p.Key))
	if lies := readAt(t, s.Heap(), kind, ref); show(lies) != show(want) {
		t.Errorf("at %.40v, where Find leads, lies %s; want %s", p, brief(show(lies)), brief(show(want)))
	}
}

func wantNothing(t *testing.T, s *space.Space, p api.Place) {
	t.Helper()
	key := []byte(p.Key)
	kind, ref := s.Find(p.DB, key)
	v, e := s.Value(p.DB, key)
	deadline, there := s.Deadline(p.DB, key)
	if kind != 0 || ref != 0 || e != api.ErrSpaceNone || show(v) != show(api.Value{}) || deadline != 0 || there || s.CostOf(p.DB, key) != 0 {
		t.Errorf("at %.40v: Find %d, %d; Value %s, %d; Deadline %d, %v; CostOf %d", p, kind, ref, brief(show(v)), e, deadline, there, s.CostOf(p.DB, key))
	}
}

func wantDeadline(t *testing.T, s *space.Space, p api.Place, want uint64) {
	t.Helper()
	if got, there := s.Deadline(p.DB, []byte(p.Key)); got != want || !there {
		t.Errorf("the deadline at %.40v: %d, %v; want %d", p, got, there, want)
	}
}

func wantChanged(t *testing.T, s *space.Space, want ...api.Place) {
	t.Helper()
	if got := s.Changed(); !slices.Equal(got, want) {
		t.Errorf("Changed: %v, want %v", got, want)
	}
}

func wantPicture(t *testing.T, s *space.Space, what, want string) {
	t.Helper()
	if got := picture(s); got != want {
		t.Errorf("%s: the space holds\n%s\nwant\n%s", what, brief(got), brief(want))
	}
}

// readAt reads a value through its own package.
func readAt(t *testing.T, h *heap.Heap, kind int, ref uint64) api.Value {
	t.Helper()
	v := api.Value{Kind: kind}
	e := api.OK
	switch kind {
	case api.ValText:
		v.Text, e = blob.Read(h, ref)
	case api.ValList:
		var l *chain.List
		if l, e = chain.Open(h, ref); e == api.OK {
			v.List, e = l.Slice(0, l.Len())
			l.Close()
		}
	case api.ValHash, api.ValSet:
		v, e = readTable(t, h, kind, ref)
	case api.ValRank:
		var r *rank.Rank
		if r, e = rank.Open(h, ref); e == api.OK {
			v.Ranked = r.Slice(0, r.Len())
			r.Close()
			inner, _ := h.Get(ref, 0)
			wantSeeded(t, h, inner)
		}
	}
	if e != api.OK {
		t.Errorf("a value of kind %d can't be read at %d: %d", kind, ref, e)
	}
	return v
}

func readTable(t *testing.T, h *heap.Heap, kind int, ref uint64) (api.Value, api.Errno) {
	v := api.Value{Kind: kind}
	x, e := table.Open(h, ref)
	if e != api.OK {
		return v, e
	}
	defer x.Close()
	wantSeeded(t, h, ref)
	for _, key := range x.Keys() {
		under, a, b, _ := x.Get(key)
		if a != 0 || b != 0 || (under == 0) != (kind == api.ValSet) {
			t.Errorf("a table of kind %d has under %q %d, %d, %d", kind, key, under, a, b)
		}
		if kind == api.ValSet {
			v.List = append(v.List, key)
			continue
		}
		value, e := blob.Read(h, under)
		if e != api.OK {
			return v, e
		}
		v.Pairs = append(v.Pairs, api.Pair{Field: key, Value: value})
	}
	return v, api.OK
}

// wantSeeded tells whether a table goes by the space's seed: its keys come in the order of their hashes by it.
func wantSeeded(t *testing.T, h *heap.Heap, ref uint64) {
	t.Helper()
	x, e := table.Open(h, ref)
	if e != api.OK {
		t.Fatalf("no table at %d: %d", ref, e)
	}
	defer x.Close()
	last := uint64(0)
	for key := range x.All() {
		this := word.Hash(seed, key)
		if this < last {
			t.Errorf("the table at %d is not in the order of the seed %d", ref, seed)
		}
		last = this
	}
}

func TestP10_1_New(t *testing.T) {
	for _, quota := range []int{api.MinQuota - 1, api.MaxQuota + 1, 0, -1, -256, 1 << 62, -1 << 63, 1<<63 - 1} {
		if s, e := space.New(quota, 1); s != nil || e != api.ErrSpaceQuota {
			t.Errorf("New(%d): %v, %d", quota, s, e)
		}
	}
	for _, quota := range []int{api.MinQuota, api.MinQuota + 1, 5000, api.MaxQuota} {
		for _, seed := range []uint64{0, 7, 1<<64 - 1} {
			s, e := space.New(quota, seed)
			if s == nil || e != api.OK {
				t.Fatalf("New(%d, %d): %v, %d", quota, seed, s, e)
			}
			if s.Quota() != quota || s.Seed() != seed || s.Clock() != 0 || s.Level() != 1 || s.Heap() == nil || s.Heap().Stats().Limit != 16*quota+131072 {
				t.Errorf("New(%d, %d): quota %d, seed %d, clock %d, limit %d", quota, seed, s.Quota(), s.Seed(), s.Clock(), s.Heap().Stats().Limit)
			}
			wantPicture(t, s, "new", "cost 0")
			wantChanged(t, s)
			for db := range api.MaxDB {
				if next, keys := s.Scan(db, 0, 9); next != 0 || len(keys) != 0 || s.Size(db) != 0 {
					t.Errorf("a new space has the keys %q", keys)
				}
			}
		}
	}
}

func TestP10_2_WhatLiesOnTheHeap(t *testing.T) {
	s := made(t, 4000)
	places := map[api.Place]api.Value{}
	for i, v := range kinds() {
		for db := range api.MaxDB {
			places[at(db, fmt.Sprint(i))] = v
		}
	}
	places[at(1, "")] = text("")
	places[at(1, wide(4096))] = list("")
	places[at(3, "many")] = hash(slices.Collect(func(yield func(string) bool) {
		for i := range 60 {
			if !yield(fmt.Sprintf("%02d", i)) {
				return
			}
		}
	})...)
	done(t, s, 1, func() {
		for p, v := range places {
			store(t, s, p, v)
		}
		for p, v := range places {
			wantValue(t, s, p, v)
		}
	})
	for range 3 {
		for p, v := range places {
			wantValue(t, s, p, v)
		}
		s.Heap().Collect()
	}
	for _, p := range []api.Place{at(0, "none"), at(2, ""), at(-1, "0"), at(4, "0"), at(0, wide(4097)), at(1<<62, "0")} {
		if kind, ref := s.Find(p.DB, []byte(p.Key)); kind != 0 || ref != 0 {
			t.Errorf("Find at %v: %d, %d", p, kind, ref)
		}
	}
	// The keys themselves stand in a table of the space's seed.
	for db := range api.MaxDB {
		last := uint64(0)
		_, keys := s.Scan(db, 0, 1<<30)
		for _, key := range keys {
			this := word.Hash(seed, key)
			if this < last {
				t.Errorf("database %d is not in the order of the seed %d", db, seed)
			}
			last = this
		}
	}
}

func TestP10_2_EveryKindInTheFourWaysItCanCome(t *testing.T) {
	s := made(t, 4000)
	h := s.Heap()
	p, q := at(2, "p"), at(0, "q")
	for _, v := range kinds() {
		done(t, s, 1, func() { store(t, s, p, v) })
		wantValue(t, s, p, v)
		done(t, s, 1, func() { s.Move(p.DB, []byte(p.Key), q.DB, []byte(q.Key)) })
		wantValue(t, s, q, v)
		wantNothing(t, s, p)
		done(t, s, 1, func() { fill(t, h, v, edit(t, s, p, v.Kind), s, p) })
		wantValue(t, s, p, v)
		done(t, s, 1, func() {
			s.Remove(q.DB, []byte(q.Key))
			wantErr(t, "Bind", s.Bind(q.DB, []byte(q.Key), v.Kind, makeAt(t, h, v)), api.OK)
		})
		wantValue(t, s, q, v)
		done(t, s, 1, func() { s.Remove(p.DB, []byte(p.Key)); s.Remove(q.DB, []byte(q.Key)) })
	}
}

// makeAt makes an object of a value by the package that it belongs to; nothing holds it.
func makeAt(t *testing.T, h *heap.Heap, v api.Value) uint64 {
	t.Helper()
	var ref uint64
	var e api.Errno
	switch v.Kind {
	case api.ValText:
		ref, e = blob.New(h)
	case api.ValList:
		var l *chain.List
		if l, e = chain.New(h); e == api.OK {
			ref = l.Ref()
			l.Close()
		}
	case api.ValHash, api.ValSet:
		var x *table.Table
		if x, e = table.New(h, seed); e == api.OK {
			ref = x.Ref()
			x.Close()
		}
	case api.ValRank:
		var r *rank.Rank
		if r, e = rank.New(h, seed); e == api.OK {
			ref = r.Ref()
			r.Close()
		}
	}
	if e != api.OK {
		t.Fatalf("an object for kind %d: %d", v.Kind, e)
	}
	return fill(t, h, v, ref, nil, api.Place{})
}

// fill puts a value into an empty object of its kind; a text, which can't be changed where it lies, is bound anew, if there is a space to bind it in.
func fill(t *testing.T, h *heap.Heap, v api.Value, ref uint64, s *space.Space, p api.Place) uint64 {
	t.Helper()
	e := api.OK
	switch v.Kind {
	case api.ValText:
		if ref, e = blob.Write(h, ref, 0, v.Text); e == api.OK && s != nil {
			e = s.Bind(p.DB, []byte(p.Key), v.Kind, ref)
		}
	case api.ValList:
		l, _ := chain.Open(h, ref)
		defer l.Close()
		for _, b := range v.List {
			e = max(e, l.Push(false, b))
		}
		ref = l.Ref()
	case api.ValHash, api.ValSet:
		x, _ := table.Open(h, ref)
		defer x.Close()
		for _, p := range v.Pairs {
			under, f := blob.New(h, p.Value)
			_, g := x.Put(p.Field, under, 0, 0)
			e = max(e, f, g)
		}
		for _, b := range v.List {
			_, f := x.Put(b, 0, 0, 0)
			e = max(e, f)
		}
		ref = x.Ref()
	case api.ValRank:
		r, _ := rank.Open(h, ref)
		defer r.Close()
		for i, m := range v.Ranked {
			_, f := r.Add(m.Member, m.Score, 1+i%8)
			e = max(e, f)
		}
		ref = r.Ref()
	}
	if e != api.OK {
		t.Fatalf("an object can't be filled with %s: %d", brief(show(v)), e)
	}
	return ref
}

func TestP10_3_NoHandleIsLeft(t *testing.T) {
	s := made(t, 3000)
	h := s.Heap()
	roots := h.Stats().Roots
	check := func(what string) {
		t.Helper()
		if n := h.Stats().Roots; n != roots {
			t.Errorf("%s: %d handles in use, want %d", what, n, roots)
		}
	}
	values := kinds()
	all := func() {
		for i, v := range values {
			p := at(i%4, fmt.Sprint(i))
			store(t, s, p, v)
			s.Value(p.DB, []byte(p.Key))
			s.CostOf(p.DB, []byte(p.Key))
			fill(t, h, v, edit(t, s, at(3, "new"+p.Key), v.Kind), s, at(3, "new"+p.Key))
			s.Bind(2, []byte("bound"+p.Key), v.Kind, makeAt(t, h, v))
			s.Move(2, []byte("bound"+p.Key), 1, []byte("moved"+p.Key))
			s.SetDeadline(p.DB, []byte(p.Key), 50+uint64(i))
		}
		s.Cost()
	}
	done(t, s, 1, all)
	check("behind a Run")
	wantRun(t, s, 2, 99, func() { all(); s.Fail(99) })
	check("behind one that failed")
	s.Run(3, func() api.Reply { all(); return api.Bad(api.BadKey) })
	check("behind an error")
	wantRun(t, s, 4, api.ErrSpaceFull, func() {
		all()
		store(t, s, at(0, "big"), list(wide(4096), wide(4096), wide(4096), wide(4096), wide(4096), wide(4096)))
	})
	check("behind one above the quota")
	func() {
		defer func() { recover() }()
		s.Run(5, func() api.Reply { all(); panic("own") })
	}()
	check("behind a panic")
	wantRun(t, s, 6, api.ErrHeapFull, func() {
		for i := 0; ; i++ {
			if e := s.Store(0, []byte(fmt.Sprint("full", i)), list(wide(4096), wide(400), wide(40))); e != api.OK {
				s.Fail(e)
			}
		}
	})
	check("behind a full heap")
	done(t, s, 100, func() {})
	check("behind what passed away")
	// A handle of the caller's own is not counted, and stays.
	mine, _ := h.Root(0)
	roots++
	done(t, s, 101, all)
	check("with a handle of the caller's")
	if _, e := h.At(mine); e != api.OK {
		t.Errorf("the caller's handle is gone: %d", e)
	}
}

func TestP10_19_TwoSpacesHaveNothingInCommon(t *testing.T) {
	a, b := made(t, 1000), made(t, 2000)
	done(t, a, 9, func() {
		for i, v := range kinds() {
			store(t, a, at(0, fmt.Sprint(i)), v)
		}
		a.SetDeadline(0, []byte("0"), 50)
		// Inside a Run of one the other is idle, and may begin a Run of its own.
		wantErr(t, "Store in the other space", b.Store(0, []byte("k"), text("v")), api.ErrSpaceIdle)
		done(t, b, 3, func() { store(t, b, at(1, "k"), text("v")) })
		wantChanged(t, b, at(1, "k"))
		wantChanged(t, a)
	})
	a.Draw([]byte{1, 1})
	wantPicture(t, b, "the other space", "1 \"k\" 0: "+show(text("v"))+"\ncost 30")
	if b.Clock() != 3 || b.Level() != 1 || a.Level() != 2 || a.Heap() == b.Heap() {
		t.Errorf("the spaces share: clock %d", b.Clock())
	}
	before := picture(a)
	done(t, b, 60, func() { b.Remove(1, []byte("k")); b.Heap().Collect() })
	wantPicture(t, a, "behind the other's Run", before)
	if a.Clock() != 9 {
		t.Errorf("the clock is %d", a.Clock())
	}
	wantChanged(t, a, at(0, "0"), at(0, "1"), at(0, "2"), at(0, "3"), at(0, "4"))
}
