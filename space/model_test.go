package space_test

import (
	"bytes"
	"cmp"
	"fmt"
	"maps"
	"math/rand"
	"slices"
	"strings"
	"testing"

	"larder/api"
	"larder/blob"
	"larder/chain"
	"larder/rank"
	"larder/space"
	"larder/table"
)

// cell is what lies at a place, as plain data.
type cell struct {
	v        api.Value
	deadline uint64
}

// world is what a space should hold.
type world map[api.Place]cell

func inOrder(a, b api.Place) int {
	return cmp.Or(cmp.Compare(a.DB, b.DB), strings.Compare(a.Key, b.Key))
}

func (w world) places() []api.Place { return slices.SortedFunc(maps.Keys(w), inOrder) }

func (w world) cost() int {
	sum := 0
	for p, c := range w {
		sum += costOf(p.Key, c.v)
	}
	return sum
}

// picture tells a world as picture tells a space.
func (w world) picture() string {
	var b strings.Builder
	for _, p := range w.places() {
		fmt.Fprintf(&b, "%d %q %d: %s\n", p.DB, p.Key, w[p].deadline, show(w[p].v))
	}
	fmt.Fprintf(&b, "cost %d", w.cost())
	return b.String()
}

// plain brings a value into the form in which it is told, in memory of its own.
func plain(v api.Value) api.Value {
	n := api.Value{Kind: v.Kind}
	switch v.Kind {
	case api.ValText:
		n.Text = bytes.Clone(v.Text)
	case api.ValList:
		n.List = slices.Clone(v.List)
	case api.ValSet:
		n.List = slices.Clone(v.List)
		slices.SortFunc(n.List, bytes.Compare)
	case api.ValHash:
		n.Pairs = slices.Clone(v.Pairs)
		slices.SortFunc(n.Pairs, func(a, b api.Pair) int { return bytes.Compare(a.Field, b.Field) })
	case api.ValRank:
		n.Ranked = slices.Clone(v.Ranked)
		slices.SortFunc(n.Ranked, func(a, b api.Scored) int {
			return cmp.Or(cmp.Compare(a.Score, b.Score), bytes.Compare(a.Member, b.Member))
		})
	}
	return n
}

func isHollow(v api.Value) bool {
	return v.Kind != api.ValText && len(v.List)+len(v.Pairs)+len(v.Ranked) == 0
}

// play is a space, the world that it should hold, and the draws that decide what is done with both.
type play struct {
	t     *testing.T
	r     *rand.Rand
	s     *space.Space
	w     world
	clock uint64
}

func (p *play) text() string {
	n := p.r.Intn(6)
	if p.r.Intn(20) == 0 {
		n = p.r.Intn(1200)
	}
	return strings.Repeat(string(rune('a'+p.r.Intn(3))), n)
}

func (p *play) place() api.Place {
	keys := []string{"", "a", "b", "c", "ab", wide(600)}
	return at(p.r.Intn(2)*3, keys[p.r.Intn(len(keys))])
}

// names tells some texts, none twice.
func (p *play) names(many int) []string {
	found := map[string]int{}
	for range p.r.Intn(many) {
		found[p.text()]++
	}
	l := slices.Sorted(maps.Keys(found))
	p.r.Shuffle(len(l), func(i, j int) { l[i], l[j] = l[j], l[i] })
	return l
}

func (p *play) value() api.Value {
	switch p.r.Intn(5) {
	case 0:
		return text(p.text())
	case 1:
		return list(p.names(6)...)
	case 2:
		return set(p.names(8)...)
	case 3:
		v := hash()
		for _, f := range p.names(8) {
			v.Pairs = append(v.Pairs, api.Pair{Field: []byte(f), Value: []byte(p.text())})
		}
		return v
	}
	v := ranked()
	for _, m := range p.names(8) {
		v.Ranked = append(v.Ranked, scored(m, int64(p.r.Intn(4)-2)))
	}
	return v
}

// stir does what moves objects about on the heap.
func (p *play) stir() {
	h := p.s.Heap()
	switch p.r.Intn(12) {
	case 0:
		h.Collect()
	case 1:
		h.Resize(64 + p.r.Intn(h.Stats().Limit/2))
	case 2:
		h.Alloc(api.KindNode, p.r.Intn(5), p.r.Intn(200))
	case 3:
		p.s.Draw([]byte{byte(p.r.Intn(256))})
	}
}

// want holds what a call answered against what it should.
func (p *play) want(what string, got, want any) {
	p.t.Helper()
	if got != want {
		p.t.Errorf("%s: %v, want %v", what, got, want)
	}
}

// statement does one thing to the space and to the world.
func (p *play) statement() {
	at := p.place()
	db, key := at.DB, []byte(at.Key)
	now, there := p.w[at]
	switch p.r.Intn(8) {
	case 0, 1:
		v := p.value()
		p.want("Store", p.s.Store(db, key, v), api.OK)
		if delete(p.w, at); !isHollow(v) {
			p.w[at] = cell{v: plain(v)}
		}
	case 2:
		p.want("Remove", p.s.Remove(db, key), there)
		delete(p.w, at)
	case 3:
		to := p.place()
		p.want("Move", p.s.Move(db, key, to.DB, []byte(to.Key)), there)
		if there {
			delete(p.w, at)
			p.w[to] = now
		}
	case 4:
		p.deadline(at)
	case 5:
		v := p.value()
		p.want("Bind", p.s.Bind(db, key, v.Kind, makeAt(p.t, p.s.Heap(), v)), api.OK)
		p.w[at] = cell{plain(v), now.deadline}
	default:
		p.edit(at)
	}
}

func (p *play) deadline(at api.Place) {
	until := []uint64{0, 1, p.clock, p.clock + 1, p.clock + 3, p.clock + 9, api.MaxTime, api.MaxTime + 1}[p.r.Intn(8)]
	now, there := p.w[at]
	e := p.s.SetDeadline(at.DB, []byte(at.Key), until)
	switch {
	case until > api.MaxTime:
		p.want("SetDeadline", e, api.ErrSpaceTime)
	case !there:
		p.want("SetDeadline", e, api.ErrSpaceNone)
	case until != 0 && until <= p.clock:
		p.want("SetDeadline", e, api.OK)
		delete(p.w, at)
	default:
		p.want("SetDeadline", e, api.OK)
		p.w[at] = cell{now.v, until}
	}
}

// edit changes a value in place, be it there or not.
func (p *play) edit(at api.Place) {
	kind := 1 + p.r.Intn(5)
	now, there := p.w[at]
	if there && p.r.Intn(4) > 0 {
		kind = now.v.Kind
	}
	ref, e := p.s.Edit(at.DB, []byte(at.Key), kind)
	if there && kind != now.v.Kind {
		p.want("Edit", e, api.ErrSpaceKind)
		p.want("Edit", ref, uint64(0))
		return
	}
	p.want("Edit", e, api.OK)
	if !there {
		now = cell{v: api.Value{Kind: kind}}
	}
	v := plain(now.v)
	b := []byte(p.text())
	switch kind {
	case api.ValText:
		v.Text = p.editText(at, ref, v.Text, b)
	case api.ValList:
		v.List = p.editList(ref, v.List, b)
	case api.ValSet:
		v.List = p.editSet(ref, v.List, b)
	case api.ValHash:
		v.Pairs = p.editHash(ref, v.Pairs, b)
	case api.ValRank:
		v.Ranked = p.editRank(ref, v.Ranked, b)
	}
	p.w[at] = cell{plain(v), now.deadline}
}

func (p *play) editText(at api.Place, ref uint64, was, b []byte) []byte {
	from := p.r.Intn(20)
	ref, e := blob.Write(p.s.Heap(), ref, from, b)
	p.want("Write", e, api.OK)
	p.want("Bind", p.s.Bind(at.DB, []byte(at.Key), api.ValText, ref), api.OK)
	if len(b) == 0 {
		return was
	}
	text := make([]byte, max(len(was), from+len(b)))
	copy(text, was)
	copy(text[from:], b)
	return text
}

func (p *play) editList(ref uint64, was [][]byte, b []byte) [][]byte {
	l, _ := chain.Open(p.s.Heap(), ref)
	defer l.Close()
	for range p.r.Intn(4) {
		p.stir()
		switch p.r.Intn(4) {
		case 0:
			l.Push(true, b)
			was = slices.Insert(was, 0, b)
		case 1:
			l.Push(false, b)
			was = append(was, b)
		case 2:
			n := p.r.Intn(len(was) + 1)
			l.Cut(0, n)
			was = was[n:]
		case 3:
			if len(was) > 0 {
				i := p.r.Intn(len(was))
				l.Set(i, b)
				was[i] = b
			}
		}
	}
	return was
}

func (p *play) editSet(ref uint64, was [][]byte, b []byte) [][]byte {
	x, _ := table.Open(p.s.Heap(), ref)
	defer x.Close()
	x.Delete(b)
	was = slices.DeleteFunc(was, func(c []byte) bool { return bytes.Equal(b, c) })
	p.stir()
	if p.r.Intn(2) == 0 {
		x.Put(b, 0, 0, 0)
		was = append(was, b)
	}
	return was
}

func (p *play) editHash(ref uint64, was []api.Pair, b []byte) []api.Pair {
	x, _ := table.Open(p.s.Heap(), ref)
	defer x.Close()
	x.Delete(b)
	was = slices.DeleteFunc(was, func(c api.Pair) bool { return bytes.Equal(b, c.Field) })
	p.stir()
	if p.r.Intn(2) == 0 {
		value := []byte(p.text())
		under, _ := blob.New(p.s.Heap(), value)
		x.Put(b, under, 0, 0)
		was = append(was, api.Pair{Field: b, Value: value})
	}
	return was
}

func (p *play) editRank(ref uint64, was []api.Scored, b []byte) []api.Scored {
	x, _ := rank.Open(p.s.Heap(), ref)
	defer x.Close()
	x.Remove(b)
	was = slices.DeleteFunc(was, func(c api.Scored) bool { return bytes.Equal(b, c.Member) })
	p.stir()
	if p.r.Intn(2) == 0 {
		score := int64(p.r.Intn(5) - 2)
		x.Add(b, score, p.s.Level())
		was = append(was, api.Scored{Member: b, Score: score})
	}
	return was
}

// check holds all that can be asked against the world.
func (p *play) check(what string) {
	p.t.Helper()
	wantPicture(p.t, p.s, what, p.w.picture())
	sizes := [api.MaxDB]int{}
	for at, c := range p.w {
		sizes[at.DB]++
		wantValue(p.t, p.s, at, c.v)
		p.want("CostOf", p.s.CostOf(at.DB, []byte(at.Key)), costOf(at.Key, c.v))
	}
	for db, want := range sizes {
		p.want("Size", p.s.Size(db), want)
		next, keys := p.s.Scan(db, 0, want)
		p.want("Scan", next, uint64(0))
		p.want("Scan", len(keys), want)
	}
	p.want("Clock", p.s.Clock(), p.clock)
}

// run plays one Run with all that comes before and behind it.
func (p *play) run() {
	before := maps.Clone(p.w)
	reading := p.clock + uint64(p.r.Intn(6)) - min(p.clock, 2)
	p.clock = max(p.clock, reading)
	maps.DeleteFunc(p.w, func(_ api.Place, c cell) bool { return c.deadline != 0 && c.deadline <= p.clock })
	behind := maps.Clone(p.w)
	end := []string{"", "", "", "", "Fail", "error", "panic", "recovered"}[p.r.Intn(8)]
	var reply api.Reply
	var e api.Errno
	fault := panics(func() {
		reply, e = p.s.Run(reading, func() api.Reply {
			p.check("when f begins")
			for range p.r.Intn(9) {
				p.statement()
				p.stir()
				if p.r.Intn(3) == 0 {
					p.check("inside")
				}
				wantChanged(p.t, p.s)
			}
			return p.end(end)
		})
	})
	want := api.OK
	maps.DeleteFunc(p.w, func(_ api.Place, c cell) bool { return isHollow(c.v) })
	if end != "" {
		p.w = behind
	} else if p.w.cost() > p.s.Quota() {
		p.w, want = behind, api.ErrSpaceFull
	}
	switch end {
	case "Fail", "recovered":
		want = 77
	case "panic":
		p.want("the panic", fault, "own")
	case "error":
		p.want("the reply", string(reply.Text), api.Text(api.BadKey))
	}
	p.want("Run", e, want)
	p.want("the reply's kind", reply.Kind == api.ReplyInt, end == "" && want == api.OK)
	p.check("behind a Run")
	p.changed(before)
	wantWords(p.t, p.s)
}

// end ends f.
func (p *play) end(how string) api.Reply {
	switch how {
	case "Fail":
		p.s.Fail(77)
	case "error":
		return api.Bad(api.BadKey)
	case "panic":
		panic("own")
	case "recovered":
		panics(func() { p.s.Fail(77) })
		p.s.Store(1, []byte("more"), text("x"))
	}
	return api.Number(1)
}

func (p *play) changed(before world) {
	p.t.Helper()
	var want []api.Place
	all := maps.Clone(before)
	maps.Copy(all, p.w)
	for _, at := range all.places() {
		was, there := before[at]
		is, stays := p.w[at]
		if there != stays || was.deadline != is.deadline || show(was.v) != show(is.v) {
			want = append(want, at)
		}
	}
	wantChanged(p.t, p.s, want...)
}

func TestAgainstThePlainModel(t *testing.T) {
	for script := range int64(60) {
		r := rand.New(rand.NewSource(script))
		p := &play{t: t, r: r, s: made(t, 256+r.Intn(3)*r.Intn(2000)), w: world{}}
		roots := p.s.Heap().Stats().Roots
		for range 50 {
			p.run()
			p.stir()
			if n := p.s.Heap().Stats().Roots; n != roots {
				t.Errorf("%d handles, want %d", n, roots)
			}
			if t.Failed() {
				t.Fatalf("in script %d", script)
			}
		}
	}
}
