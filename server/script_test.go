package server_test

import (
	"bytes"
	"fmt"
	"strings"
	"testing"

	"larder/api"
)

// framer cuts a script into steps and chunks: what becomes whole does so in the script's order, at its readings.
type framer struct {
	player
	events []event
	raws   [][]byte // what has not been sent of each event's bytes
	broken [api.MaxConns]bool
	moves  []move
	fresh  bool // the next chunk begins a step
	now    uint64
}

// framed draws a way of cutting a script.
func (p player) framed(events []event) []move {
	f := &framer{player: p, events: events, fresh: true}
	for _, x := range events {
		f.raws = append(f.raws, p.raw(x))
	}
	for i, x := range events {
		f.send(i, x)
	}
	return f.moves
}

// send sends all that an event still lacks.
func (f *framer) send(i int, x event) {
	if x.kind == isSync {
		f.moves = append(f.moves, move{sync: true})
		f.fresh = true
		return
	}
	if x.now != f.now {
		f.fresh = true
		f.now = x.now
	}
	f.begin()
	switch {
	case x.kind == isTick:
	case x.kind == isHang:
		f.hang(x.conn)
	case f.broken[x.conn]:
		f.chunk(api.Chunk{Conn: x.conn, Data: f.raws[i]})
	default:
		f.pieces(i, x)
	}
	f.ahead(i)
}

// begin begins a step, if that must be or is drawn so.
func (f *framer) begin() {
	for f.fresh || f.chance(4) {
		f.moves = append(f.moves, move{step: api.Step{Now: f.now}})
		f.fresh = false
	}
}

// chunk adds a chunk, to this step or to one that begins with it at the same reading.
func (f *framer) chunk(c api.Chunk) {
	f.begin()
	last := &f.moves[len(f.moves)-1].step
	if f.chance(10) {
		last.Chunks = append(last.Chunks, api.Chunk{Conn: f.r.Intn(9) - 9, Data: []byte("SET no 1\n*x"), Hang: f.chance(2)})
	}
	last.Chunks = append(last.Chunks, c)
}

// pieces sends an event's bytes in pieces, with the last perhaps the beginning of what comes next on that connection.
func (f *framer) pieces(i int, x event) {
	rest := f.raws[i]
	for len(rest) > 1 && f.chance(2) {
		n := f.r.Intn(min(len(rest), 30))
		f.chunk(api.Chunk{Conn: x.conn, Data: rest[:n]})
		rest = rest[n:]
	}
	last := bytes.Clone(rest)
	if x.kind == isBreak {
		f.broken[x.conn] = true
		last = append(last, f.pick("", "PING\r\n", "*1\r\n$4\r\nPING\r\n", "\"")...)
	} else if next, n := f.next(i, x.conn); n > 0 && f.chance(2) {
		last = append(last, f.raws[next][:n]...)
		f.raws[next] = f.raws[next][n:]
	}
	f.chunk(api.Chunk{Conn: x.conn, Data: last})
}

// next draws how many bytes of the next event on a connection behind event i may be sent ahead of it; 0, if none may.
func (f *framer) next(i, conn int) (int, int) {
	if f.broken[conn] {
		return 0, 0
	}
	for j := i + 1; j < len(f.events); j++ {
		if f.events[j].conn != conn || f.events[j].kind > isHang {
			continue
		}
		if len(f.raws[j]) == 0 {
			break
		}
		return j, f.r.Intn(len(f.raws[j]))
	}
	return 0, 0
}

// ahead sends the beginning of what comes next on some connection.
func (f *framer) ahead(i int) {
	conn := f.r.Intn(api.MaxConns)
	if next, n := f.next(i, conn); n > 0 && f.chance(3) {
		f.chunk(api.Chunk{Conn: conn, Data: f.raws[next][:n]})
		f.raws[next] = f.raws[next][n:]
	}
}

// hang hangs up: with the last chunk, with one of its own, or with the beginning of a request that never comes to its end.
func (f *framer) hang(conn int) {
	last := &f.moves[len(f.moves)-1].step
	if n := len(last.Chunks); n > 0 && last.Chunks[n-1].Conn == conn && f.chance(2) {
		last.Chunks[n-1].Hang = true
	} else {
		f.chunk(api.Chunk{Conn: conn, Data: []byte(f.pick("", "", "*1\r\n$4\r\nPING\r", "PING", "*")), Hang: true})
	}
	f.broken[conn] = false
}

// meet counts what has been met in what goes out.
func meet(met map[string]int, p *plain) {
	all := string(bytes.Join(p.out[:], nil))
	for _, part := range []string{"+PONG", "+QUEUED", "*-1", "-OOM", "-ERR Protocol error", "-EXECABORT", "-ERR not now", "message", "-WRONGTYPE", "-ERR unknown command"} {
		met[part] += strings.Count(all, part)
	}
	met["entries"] += p.entries
	if len(p.disk.Snap) > 0 {
		met["snapshots"]++
	}
	if p.disk.Synced > 0 {
		met["logs of which something is safe"]++
	}
}

func quotaOf(n int) int { return []int{256, 700, 3000, api.MaxQuota}[n%4] }

// TestP20_6_FramingIsNotSeen: drawn scripts, each cut in some ways, against the plain server, which sees no bytes.
func TestP20_6_FramingIsNotSeen(t *testing.T) {
	met := map[string]int{}
	for n := range 120 {
		draw := playerOf(n)
		events := draw.events(300)
		p := played(quotaOf(n), events)
		if p.unfit > 0 {
			t.Fatalf("script %d: %d outs that wire refuses", n, p.unfit)
		}
		meet(met, p)
		for way := range 3 {
			s := made(t, quotaOf(n))
			out := run(s, draw.framed(events))
			wantSame(t, fmt.Sprintf("script %d, way %d", n, way), p, out, s.Disk())
		}
	}
	for what, n := range met {
		if n < 30 {
			t.Errorf("the scripts ask too little: %s: %d", what, n)
		}
	}
}

// TestP20_6_ByteByByte: every byte in a chunk and in a step of its own, and all bytes of a reading in one step.
func TestP20_6_ByteByByte(t *testing.T) {
	for n := range 12 {
		draw := playerOf(1000 + n)
		events := draw.events(120)
		p := played(1000, events)
		var single, joint []move
		for _, m := range draw.framed(events) {
			if m.sync {
				single, joint = append(single, m), append(joint, m)
				continue
			}
			single = append(single, move{step: api.Step{Now: m.step.Now}})
			for _, c := range m.step.Chunks {
				for i := range c.Data {
					single = append(single, move{step: api.Step{Now: m.step.Now, Chunks: []api.Chunk{{Conn: c.Conn, Data: c.Data[i : i+1]}}}})
				}
				single = append(single, move{step: api.Step{Now: m.step.Now, Chunks: []api.Chunk{{Conn: c.Conn, Hang: c.Hang}}}})
			}
			if last := len(joint) - 1; last >= 0 && !joint[last].sync && joint[last].step.Now == m.step.Now {
				joint[last].step.Chunks = append(joint[last].step.Chunks, m.step.Chunks...)
				continue
			}
			joint = append(joint, m)
		}
		for name, moves := range map[string][]move{"single": single, "joint": joint} {
			s := made(t, 1000)
			out := run(s, moves)
			wantSame(t, fmt.Sprintf("script %d, %s", n, name), p, out, s.Disk())
		}
	}
}

// shaken draws draws, collections and resizes for all steps.
func (p player) shaken(moves []move) []move {
	var all []move
	for _, m := range moves {
		if p.chance(2) {
			m.step.Draws = make([]byte, p.r.Intn(20))
			p.r.Read(m.step.Draws)
		}
		m.step.Collect = p.chance(4)
		if p.chance(4) {
			m.step.Half = []int{-1, 1, 64, 128, 500, 4096, 30000, 65536, 1 << 30}[p.r.Intn(9)]
		}
		all = append(all, m)
	}
	return all
}

// TestP20_7_TheHeapIsNotSeen: and at no time has it more words than it may.
func TestP20_7_TheHeapIsNotSeen(t *testing.T) {
	for n := range 60 {
		draw := playerOf(2000 + n)
		quota := quotaOf(n)
		events := draw.events(250)
		p := played(quota, events)
		s := made(t, quota)
		var out streams
		for _, m := range draw.shaken(draw.framed(events)) {
			if m.sync {
				s.Sync()
				continue
			}
			out.add(s.Step(m.step))
			wantWithin(t, s, quota)
		}
		wantSame(t, fmt.Sprintf("script %d", n), p, out, s.Disk())
	}
}
