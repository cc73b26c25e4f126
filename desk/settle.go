package desk

import "larder/api"

// tick moves the clock, answers those whose time is over, and settles.
func (d *Desk) tick(now uint64) {
	d.space.Run(now, nil)
	d.notice()
	for _, conn := range d.wait.Due(d.space.Clock()) {
		d.tell(conn, d.release(conn).nothing())
	}
	d.settle()
}

// settle serves all for whom something has come, takes one piece that is held back, and so on: whom that one has brought something is served ahead of the next.
func (d *Desk) settle() {
	for d.serve() || d.takeTurn() {
	}
}

// serve pops for the one who has waited longest of those for whom there is something, and tells whether there is one.
func (d *Desk) serve() bool {
	for _, conn := range d.wait.Waiting() {
		if place, there := d.ready(d.wait.Places(conn), d.conns[conn].pop.kind); there {
			d.tell(conn, d.popAt(place, d.release(conn)))
			d.log()
			return true
		}
	}
	return false
}

// ready tells the first of some places at which a value of a kind lies, and whether there is one.
func (d *Desk) ready(places []api.Place, kind int) (api.Place, bool) {
	for _, place := range places {
		if d.kindAt(place) == kind {
			return place, true
		}
	}
	return api.Place{}, false
}

// kindAt tells the kind of the value at a place.
func (d *Desk) kindAt(place api.Place) int {
	kind, _ := d.space.Find(place.DB, []byte(place.Key))
	return kind
}

// takeTurn takes the first piece that is held back of the connection whose turn it is, and tells whether there is one.
func (d *Desk) takeTurn() bool {
	if len(d.turns) == 0 {
		return false
	}
	conn := d.turns[0]
	c := &d.conns[conn]
	d.take(conn, c.unhold())
	if len(c.held) == 0 || d.waits(conn) {
		d.turns = d.turns[1:]
	}
	return true
}

// take lets a piece do what it must.
func (d *Desk) take(conn int, p piece) {
	if p.broken {
		d.tell(conn, api.Bad(api.BadProtocol))
		d.shut(conn)
		return
	}
	d.carryOut(conn, p.args)
}

// shut closes a connection, up to its Leave.
func (d *Desk) shut(conn int) {
	d.post.Drop(conn)
	d.conns[conn] = connection{closed: true}
}

// waits tells whether a connection waits.
func (d *Desk) waits(conn int) bool {
	_, waits := d.wait.Until(conn)
	return waits
}

// release ends a connection's waiting, and tells by what it has waited.
func (d *Desk) release(conn int) pop {
	c := &d.conns[conn]
	d.wait.Release(conn)
	if len(c.held) > 0 {
		d.turns = append(d.turns, conn)
	}
	p := c.pop
	c.pop = pop{}
	return p
}
