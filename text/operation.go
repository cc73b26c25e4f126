package text

import "larder/api"

// operation is one of BITFIELD's, read.
type operation struct {
	word     string // GET, SET or INCRBY
	field    field
	n        int64
	overflow string // WRAP, SAT or FAIL
}

// workFields: BITFIELD key [operation ..].
func (c *call) workFields() api.Reply {
	key, operations := c.Next(), c.operations()
	text, _ := c.text(key)
	writes := false
	for _, o := range operations {
		if o.word != "GET" {
			writes = true
			text = longer(text, o.field.end())
		}
	}
	var replies []api.Reply
	for _, o := range operations {
		replies = append(replies, o.work(text))
	}
	if writes {
		c.change(key, text)
	}
	return api.Array(replies)
}

// operations reads all that is left.
func (c *call) operations() []operation {
	var found []operation
	overflow := "WRAP"
	for c.Left() > 0 {
		switch w := c.OneOf("GET", "SET", "INCRBY", "OVERFLOW"); w {
		case "OVERFLOW":
			c.Want(c.Left() >= 1, api.BadSyntax)
			overflow = c.OneOf("WRAP", "SAT", "FAIL")
		case "GET":
			c.Want(c.Left() >= 2, api.BadSyntax)
			found = append(found, operation{word: w, field: c.fieldAt(c.fieldType())})
		default:
			c.Want(c.Left() >= 3, api.BadSyntax)
			f := c.fieldAt(c.fieldType())
			found = append(found, operation{w, f, c.Number(), overflow})
		}
	}
	return found
}

// work carries an operation out on a text, which is long enough for it if it writes.
func (o operation) work(text []byte) api.Reply {
	was := o.field.get(text)
	from := int64(0)
	switch o.word {
	case "GET":
		return api.Number(was)
	case "INCRBY":
		from = was
	}
	n, fits := o.field.sum(from, o.n, o.overflow)
	if !fits {
		return api.Nil()
	}
	o.field.put(text, n)
	if o.word == "SET" {
		return api.Number(was)
	}
	return api.Number(n)
}
