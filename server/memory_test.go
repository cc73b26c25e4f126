package server_test

import (
	"bytes"
	"cmp"
	"fmt"
	"runtime"
	"slices"
	"testing"
	"time"
	"unsafe"

	"larder/api"
	"larder/server"
)

// stretch is a piece of memory that a list takes, its spare room too.
type stretch struct{ from, to uintptr }

func stretchOf[T any](list []T) []stretch {
	if cap(list) == 0 {
		return nil
	}
	from := uintptr(unsafe.Pointer(unsafe.SliceData(list)))
	var one T
	return []stretch{{from, from + uintptr(cap(list))*unsafe.Sizeof(one)}}
}

// kept is what a server was handed and has answered, so that none of its memory is given out anew.
type kept struct {
	steps []api.Step
	outs  [][]api.Bytes
	disks []api.Disk
}

func (k *kept) stretches() []stretch {
	var all []stretch
	for _, x := range k.steps {
		all = append(all, stretchOf(x.Draws)...)
		all = append(all, stretchOf(x.Chunks)...)
		for _, c := range x.Chunks {
			all = append(all, stretchOf(c.Data)...)
		}
	}
	for _, out := range k.outs {
		all = append(all, stretchOf(out)...)
		for _, b := range out {
			all = append(all, stretchOf(b.Data)...)
		}
	}
	for _, d := range k.disks {
		all = append(all, stretchOf(d.Snap)...)
		all = append(all, stretchOf(d.Log)...)
	}
	return all
}

// wantApart asks that no two stretches meet.
func wantApart(t *testing.T, all []stretch) {
	t.Helper()
	slices.SortFunc(all, func(a, b stretch) int { return cmp.Compare(a.from, b.from) })
	for i := 1; i < len(all); i++ {
		if all[i].from < all[i-1].to {
			t.Fatalf("memory is shared: %v and %v", all[i-1], all[i])
		}
	}
}

// spoil writes over bytes and their spare room.
func spoil(b []byte) {
	b = b[:cap(b)]
	for i := range b {
		b[i] = 0xee
	}
}

func (k *kept) spoil() {
	for _, x := range k.steps {
		spoil(x.Draws)
		for _, c := range x.Chunks {
			spoil(c.Data)
		}
		clear(x.Chunks[:cap(x.Chunks)])
	}
	for _, out := range k.outs {
		for _, b := range out {
			spoil(b.Data)
		}
		clear(out[:cap(out)])
	}
	for _, d := range k.disks {
		spoil(d.Snap)
		spoil(d.Log)
	}
}

// roomy is the same bytes in memory of their own, with spare room behind them.
func roomy(b []byte) []byte {
	own := make([]byte, len(b), len(b)+16)
	copy(own, b)
	for i := range own[len(b):cap(own)] {
		own[len(b):cap(own)][i] = 0x77
	}
	return own
}

// roomyStep is the same step in memory of its own.
func roomyStep(x api.Step) api.Step {
	own := x
	own.Draws = roomy(x.Draws)
	own.Chunks = make([]api.Chunk, len(x.Chunks), len(x.Chunks)+2)
	for i, c := range x.Chunks {
		own.Chunks[i] = api.Chunk{Conn: c.Conn, Data: roomy(c.Data), Hang: c.Hang}
	}
	return own
}

func sameStep(a, b api.Step) bool {
	return bytes.Equal(a.Draws[:cap(a.Draws)], b.Draws[:cap(b.Draws)]) && slices.EqualFunc(a.Chunks[:cap(a.Chunks)], b.Chunks[:cap(b.Chunks)], func(a, b api.Chunk) bool {
		return a.Conn == b.Conn && a.Hang == b.Hang && bytes.Equal(a.Data[:cap(a.Data)], b.Data[:cap(b.Data)])
	})
}

// give plays a step and keeps what the server was handed and has answered.
func (k *kept) give(s *server.Server, x api.Step, disk bool) string {
	out := s.Step(x)
	k.steps, k.outs = append(k.steps, x), append(k.outs, out)
	if disk {
		k.disks = append(k.disks, s.Disk(), s.Disk())
	}
	return told(out)
}

func TestP20_11_AnswersAreNewMemory(t *testing.T) {
	for n := range 20 {
		draw := playerOf(7000 + n)
		s := made(t, 2000)
		var all kept
		for _, m := range draw.shaken(draw.framed(draw.events(150))) {
			x := roomyStep(m.step)
			all.give(s, x, draw.chance(5))
			if !sameStep(x, roomyStep(m.step)) {
				t.Fatalf("script %d: %s was changed", n, saidStep(m.step))
			}
		}
		wantApart(t, all.stretches())
	}
}

// TestP20_11_NothingIsKept: what is handed in and what has been answered may be written over at once.
func TestP20_11_NothingIsKept(t *testing.T) {
	for n := range 20 {
		draw := playerOf(7100 + n)
		s, twin := made(t, 2000), made(t, 2000)
		for _, m := range draw.shaken(draw.framed(draw.events(150))) {
			var one kept
			if got, want := one.give(s, roomyStep(m.step), draw.chance(5)), told(twin.Step(m.step)); got != want {
				t.Fatalf("script %d: %s: %.200q, want %.200q", n, saidStep(m.step), got, want)
			}
			one.spoil()
		}
		a, b := s.Disk(), twin.Disk()
		if !bytes.Equal(a.Snap, b.Snap) || !bytes.Equal(a.Log, b.Log) || a.Synced != b.Synced {
			t.Fatalf("script %d: the disk is another", n)
		}
	}
}

// TestP20_11_TheDiskThatIsOpened: it is neither changed nor kept.
func TestP20_11_TheDiskThatIsOpened(t *testing.T) {
	snap := snapshotOf(t, 3)
	for _, log := range [][]byte{nil, records(1, 6), records(4, 6), records(4, 6)[:40]} {
		d := api.Disk{Snap: roomy(snap), Log: roomy(log), Synced: 3}
		s := opened(t, 1000, d)
		if !bytes.Equal(d.Snap[:cap(d.Snap)], roomy(snap)[:len(snap)+16]) || !bytes.Equal(d.Log[:cap(d.Log)], roomy(log)[:len(log)+16]) {
			t.Fatal("the disk was changed")
		}
		before := s.Disk()
		want(t, s, step(100, "0:SET 1 x|SET 2 x|"), "0:+OK|+OK|")
		behind := s.Disk()
		wantApart(t, slices.Concat(stretchOf(d.Snap), stretchOf(d.Log), stretchOf(before.Snap), stretchOf(before.Log), stretchOf(behind.Snap), stretchOf(behind.Log)))
		spoil(d.Snap)
		spoil(d.Log)
		spoil(before.Snap)
		spoil(before.Log)
		if now := s.Disk(); !bytes.Equal(now.Snap, snap) || !bytes.Equal(now.Log, behind.Log) {
			t.Error("the disk is another")
		}
		want(t, opened(t, 1000, s.Disk()), step(0, "0:MGET 1 2 3|"), "0:*3|$1|x|$1|x|$1|3|")
	}
}

// TestP20_11_HowGoroutinesRun: on one processor or on many, again and again, the same is told.
func TestP20_11_HowGoroutinesRun(t *testing.T) {
	defer runtime.GOMAXPROCS(runtime.GOMAXPROCS(0))
	draw := playerOf(8000)
	var x api.Step
	for range 400 {
		c := api.Chunk{Conn: draw.r.Intn(api.MaxConns), Hang: draw.chance(30)}
		for range draw.r.Intn(4) {
			c.Data = append(c.Data, draw.raw(event{args: draw.command(append(linesOf(onValues), linesOf(onConnections)...))})...)
		}
		x.Chunks = append(x.Chunks, c)
	}
	first := ""
	for i := range 30 {
		runtime.GOMAXPROCS(1 + i%8)
		s := made(t, 4000)
		got := told(s.Step(x)) + fmt.Sprint(s.Disk(), s.Stats())
		if i == 0 {
			first = got
		}
		if got != first {
			t.Fatal("another time it tells something else")
		}
	}
}

// TestP20_11_GoroutinesHaveEnded: when Step answers none of its goroutines is left.
func TestP20_11_GoroutinesHaveEnded(t *testing.T) {
	s := made(t, 1000)
	ahead := runtime.NumGoroutine()
	for i := range 100 {
		var x api.Step
		for conn := range api.MaxConns {
			x.Chunks = append(x.Chunks, api.Chunk{Conn: conn, Data: wired(fmt.Sprintf("SET k%d %d|SAVE|BLPOP q 0|", conn, i)), Hang: i%3 == 0})
		}
		s.Step(x)
	}
	// One that has done its work may need a moment to be gone.
	for end := time.Now().Add(5 * time.Second); runtime.NumGoroutine() > ahead; runtime.Gosched() {
		if time.Now().After(end) {
			t.Fatalf("%d goroutines, ahead of it %d", runtime.NumGoroutine(), ahead)
		}
	}
}

// TestP20_11_ServersAtTheSameTime: they have nothing in common.
func TestP20_11_ServersAtTheSameTime(t *testing.T) {
	draw := playerOf(8100)
	events := draw.events(200)
	p := played(2000, events)
	moves := draw.framed(events)
	done := make(chan error)
	for range 6 {
		go func() {
			s, _ := server.New(api.Config{Quota: 2000, Seed: seed})
			out := run(s, moves)
			for conn := range out {
				if !bytes.Equal(out[conn], p.out[conn]) {
					done <- fmt.Errorf("connection %d: %s", conn, differing(out[conn], p.out[conn]))
					return
				}
			}
			done <- nil
		}()
	}
	for range 6 {
		if err := <-done; err != nil {
			t.Error(err)
		}
	}
}
