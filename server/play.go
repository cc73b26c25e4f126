package server

import (
	"larder/api"
	"larder/record"
	"larder/wire"
)

// play is a step while it is played: its reading, and what goes out on each connection.
type play struct {
	*Server
	now uint64
	out [api.MaxConns][]byte
}

// carryOut hands over to the desk what a chunk has brought. (What comes on a connection that the desk has closed, the desk passes over.)
func (p *play) carryOut(conn int, f finding) {
	switch f.kind {
	case commands:
		for _, args := range f.whole {
			p.take(p.desk.Submit(conn, p.now, args))
		}
	case breakage:
		p.take(p.desk.Break(conn, p.now))
	case hangUp:
		p.desk.Leave(conn)
	}
}

// take writes down what has come of a call of the desk.
func (p *play) take(outs []api.Out) {
	for _, o := range outs {
		// The desk gives no reply that wire refuses.
		b, _ := wire.Encode(o.Reply)
		p.out[o.Conn] = append(p.out[o.Conn], b...)
	}
	p.disk.write(p.desk.Entries())
	if saved, seq := p.desk.Saved(); saved {
		p.disk.save(record.Dump(p.desk.Space(), seq))
	}
}

// told tells what goes out on the connections that have anything.
func (p *play) told() []api.Bytes {
	var all []api.Bytes
	for conn, data := range p.out {
		if len(data) > 0 {
			all = append(all, api.Bytes{Conn: conn, Data: data})
		}
	}
	return all
}
