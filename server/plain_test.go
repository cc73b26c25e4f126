package server_test

import (
	"bytes"
	"fmt"
	"testing"

	"larder/api"
	"larder/desk"
	"larder/record"
	"larder/server"
	"larder/wire"
)

// plain is a second server, without bytes coming in: one event is done behind the other at a desk.
type plain struct {
	desk    *desk.Desk
	started bool
	now     uint64 // the last event's reading
	broken  [api.MaxConns]bool
	out     [api.MaxConns][]byte
	disk    api.Disk
	unfit   int              // outs that wire refuses
	states  map[int64][]byte // how it was behind an entry, by the entry's number, as a snapshot
	entries int
}

func newPlain(quota int) *plain {
	d, _ := desk.New(api.Config{Quota: quota, Seed: seed})
	p := &plain{desk: d, states: map[int64][]byte{}}
	p.states[0] = record.Dump(d.Space(), 0)
	return p
}

// take writes down what has come of a call.
func (p *plain) take(outs []api.Out) {
	for _, o := range outs {
		b, e := wire.Encode(o.Reply)
		if e != api.OK {
			p.unfit++
		}
		p.out[o.Conn] = append(p.out[o.Conn], b...)
	}
	last := int64(0)
	for _, entry := range p.desk.Entries() {
		line, _ := record.Line(entry)
		p.disk.Log = append(p.disk.Log, line...)
		last = entry.Seq
		p.entries++
	}
	if last > 0 {
		p.states[last] = record.Dump(p.desk.Space(), last)
	}
	if saved, seq := p.desk.Saved(); saved {
		p.disk = api.Disk{Snap: record.Dump(p.desk.Space(), seq)}
	}
}

// do does an event.
func (p *plain) do(x event) {
	if x.kind == isSync {
		p.disk.Synced = len(p.disk.Log)
		return
	}
	if !p.started || x.now != p.now {
		p.started, p.now = true, x.now
		p.take(p.desk.Tick(x.now))
	}
	switch x.kind {
	case isCommand:
		if !p.broken[x.conn] {
			p.take(p.desk.Submit(x.conn, x.now, x.args))
		}
	case isBreak:
		if !p.broken[x.conn] {
			p.take(p.desk.Break(x.conn, x.now))
		}
		p.broken[x.conn] = true
	case isHang:
		p.desk.Leave(x.conn)
		p.broken[x.conn] = false
	}
}

// played does a whole script.
func played(quota int, events []event) *plain {
	p := newPlain(quota)
	for _, x := range events {
		p.do(x)
	}
	return p
}

// streams gathers what goes out of a server.
type streams [api.MaxConns][]byte

func (s *streams) add(all []api.Bytes) {
	for _, b := range all {
		s[b.Conn] = append(s[b.Conn], b.Data...)
	}
}

// wantSame asks that a server has told and left what the plain one has.
func wantSame(t *testing.T, name string, p *plain, out streams, d api.Disk) {
	t.Helper()
	for conn := range out {
		if !bytes.Equal(out[conn], p.out[conn]) {
			t.Fatalf("%s: connection %d: %s", name, conn, differing(out[conn], p.out[conn]))
		}
	}
	if !bytes.Equal(d.Snap, p.disk.Snap) || !bytes.Equal(d.Log, p.disk.Log) || d.Synced != p.disk.Synced {
		t.Fatalf("%s: the disk is another: %d %d %d, want %d %d %d", name, len(d.Snap), len(d.Log), d.Synced, len(p.disk.Snap), len(p.disk.Log), p.disk.Synced)
	}
}

// differing tells where two texts part.
func differing(got, want []byte) string {
	i := 0
	for i < len(got) && i < len(want) && got[i] == want[i] {
		i++
	}
	from := max(0, i-60)
	return fmt.Sprintf("at byte %d: %q, want %q", i, got[from:min(len(got), i+60)], want[from:min(len(want), i+60)])
}

// move is a step of a script, or a Sync.
type move struct {
	step api.Step
	sync bool
}

// run plays moves on a server.
func run(s *server.Server, moves []move) streams {
	var out streams
	for _, m := range moves {
		if m.sync {
			s.Sync()
			continue
		}
		out.add(s.Step(m.step))
	}
	return out
}
