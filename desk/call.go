package desk

import (
	"errors"
	"math"

	"larder/api"
	"larder/board"
	"larder/match"
)

// call is one command of a connection while it is carried out.
type call struct {
	desk   *Desk
	from   *connection
	conn   int
	args   [][]byte
	inExec bool
}

// errLater is why a command of an open transaction is not carried out now: it waits for EXEC.
var errLater = errors.New("later")

// hindrance is why the command of a name may not be carried out now: an Errno, or errLater.
type hindrance struct {
	name string
	why  error
}

func (h hindrance) Error() string { return h.name + ": " + h.why.Error() }

func (h hindrance) Unwrap() error { return h.why }

// carryOut carries a command of a connection out, or queues or refuses it.
func (d *Desk) carryOut(conn int, args [][]byte) {
	c := &call{desk: d, from: &d.conns[conn], conn: conn, args: args}
	var reply api.Reply
	var bad api.Errno
	switch h := c.hindrance(); {
	case h == nil:
		reply = c.perform()
	case errors.Is(h, errLater):
		c.from.enqueue(args)
		reply = api.Status("QUEUED")
	case errors.As(h, &bad):
		c.from.spoil()
		reply = api.Bad(bad)
	}
	d.tell(conn, reply)
	d.log()
}

// hindrance tells why the command may not be carried out now; nil, if it may.
func (c *call) hindrance() error {
	name, e := c.name()
	if e != api.OK {
		return hindrance{name, e}
	}
	r, own := find(name)
	if e := c.arityError(r, own); e != api.OK {
		return hindrance{name, e}
	}
	switch {
	case c.listens() && !r.heard:
		return hindrance{name, api.BadNow}
	case !c.from.open || r.inside == atOnce:
		return nil
	case r.inside == never:
		return hindrance{name, api.BadNow}
	case c.from.full():
		return hindrance{name, api.BadMany}
	}
	return hindrance{name, errLater}
}

// name tells the command's name, folded, unless its arguments are too many or too long.
func (c *call) name() (string, api.Errno) {
	if len(c.args) == 0 || len(c.args) > api.MaxArgs {
		return "", api.BadMany
	}
	for _, a := range c.args {
		if len(a) > api.MaxText {
			return "", api.BadLong
		}
	}
	return match.Fold(c.args[0]), api.OK
}

// arityError tells whether nobody has such a command, or it does not take so many arguments.
func (c *call) arityError(r row, own bool) api.Errno {
	if own {
		return r.arityError(len(c.args))
	}
	if !c.listens() && !c.from.open {
		// It goes to board at once, which refuses it by itself; to ask ahead would have it gather all its rows.
		return api.OK
	}
	switch board.Check(c.args) {
	case api.ErrBoardName:
		return api.BadName
	case api.ErrBoardArity:
		return api.BadArity
	}
	return api.OK
}

// listens tells whether the connection listens.
func (c *call) listens() bool { return c.desk.post.Count(c.conn) > 0 }

// perform does what the command is there for.
func (c *call) perform() api.Reply {
	if r, own := find(match.Fold(c.args[0])); own {
		return r.work(c)
	}
	return c.desk.do(c.from.db, c.args)
}

// do has a data command carried out, and sees what it has changed.
func (d *Desk) do(db int, args [][]byte) api.Reply {
	reply := board.Do(d.space, d.space.Clock(), db, args)
	if d.notice() {
		d.acts = append(d.acts, api.Act{DB: db, Args: cloned(args)})
	}
	return reply
}

// notice tells all who watch of what the last Run has changed, and whether that is anything.
func (d *Desk) notice() bool {
	changed := d.space.Changed()
	for i := range d.conns {
		d.conns[i].notice(changed)
	}
	return len(changed) > 0
}

// log makes an entry of what has changed the space since the last one.
func (d *Desk) log() {
	if len(d.acts) > 0 && d.seq < math.MaxInt64 {
		d.seq++
		d.entries = append(d.entries, api.Entry{Seq: d.seq, Now: d.space.Clock(), Group: d.acts})
	}
	d.acts = nil
}
