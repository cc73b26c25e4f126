package board

import (
	"slices"

	"larder/api"
	"larder/command"
	"larder/match"
)

// sorting is what SORT is asked for.
type sorting struct {
	by            []byte // finds the weights, if it is given
	hasBy         bool
	gets          [][]byte // find what is told of each element
	offset, count int64    // a count below 0: all
	limited       bool
	up, down      bool
	alpha         bool
	to            []byte // where to lay what is told, if it is given
	hasTo         bool
}

// own is the pattern that finds the element itself.
const own = "#"

// sort: SORT key [BY pattern] [LIMIT offset count] [GET pattern] .. [ASC | DESC] [ALPHA] [STORE destination].
func (c *call) sort() api.Reply {
	key := c.Next()
	o := c.sorting()
	f := finder{c.Space, c.DB, map[string]api.Value{}}
	list := o.tell(o.cut(o.order(c.elements(key), f)), f)
	if o.hasTo {
		return c.layFound(o.to, list)
	}
	var told []api.Reply
	for _, t := range list {
		told = append(told, command.Found(t.text, t.there))
	}
	return api.Array(told)
}

// sorting reads SORT's options.
func (c *call) sorting() sorting {
	o := sorting{count: -1}
	for c.Left() > 0 {
		switch c.OneOf("BY", "LIMIT", "GET", "ASC", "DESC", "ALPHA", "STORE") {
		case "BY":
			c.Once(&o.hasBy, 1)
			o.by = c.Next()
		case "LIMIT":
			c.Once(&o.limited, 2)
			o.offset, o.count = c.Number(), c.Number()
		case "GET":
			c.Want(c.Left() > 0, api.BadSyntax)
			o.gets = append(o.gets, c.Next())
		case "ASC":
			c.Once(&o.up, 0, o.down)
		case "DESC":
			c.Once(&o.down, 0, o.up)
		case "ALPHA":
			c.Once(&o.alpha, 0)
		case "STORE":
			c.Once(&o.hasTo, 1)
			o.to = c.Next()
		}
	}
	return o
}

// elements tells what a key's value holds, in its own order.
func (c *call) elements(key []byte) [][]byte {
	v, _ := c.Space.Value(c.DB, key)
	c.Want(v.Kind != api.ValText && v.Kind != api.ValHash, api.BadKind)
	found := v.List
	for _, m := range v.Ranked {
		found = append(found, m.Member)
	}
	return found
}

// order tells elements in the order that is asked for.
func (o sorting) order(elements [][]byte, f finder) [][]byte {
	sorted := arranged(elements, o.scale(), func(element []byte) ([]byte, bool) {
		if !o.hasBy {
			return element, true
		}
		return f.find(o.by, element)
	})
	if o.down {
		slices.Reverse(sorted)
	}
	return sorted
}

// scale tells the way in which elements are compared.
func (o sorting) scale() scale {
	_, _, star := match.Fill(o.by, nil)
	switch {
	case o.hasBy && !star:
		return asTheyStand{}
	case o.alpha:
		return byText{}
	}
	return byNumber{}
}

// cut tells the elements that LIMIT leaves.
func (o sorting) cut(elements [][]byte) [][]byte {
	n := int64(len(elements))
	from := min(max(o.offset, 0), n)
	count := n - from
	if o.count >= 0 {
		count = min(count, o.count)
	}
	return elements[from : from+count]
}

// finding is what was found for an element, or that nothing was.
type finding struct {
	text  []byte
	there bool
}

// tell tells what was asked for of each element.
func (o sorting) tell(elements [][]byte, f finder) []finding {
	gets := o.gets
	if len(gets) == 0 {
		gets = [][]byte{[]byte(own)}
	}
	// Asked first: so no time goes into an answer that is too long.
	if len(elements)*len(gets) > api.MaxReply {
		panic(api.BadLong)
	}
	var list []finding
	size := 0
	for _, element := range elements {
		for _, pattern := range gets {
			t := finding{element, true}
			if string(pattern) != own {
				t.text, t.there = f.find(pattern, element)
			}
			if size += len(t.text); size > api.MaxSort {
				panic(api.BadLong)
			}
			list = append(list, t)
		}
	}
	return list
}

// layFound lays what was found under a key as its list, in the place of what is there, and answers how many they are.
func (c *call) layFound(to []byte, list []finding) api.Reply {
	var texts [][]byte
	for _, t := range list {
		texts = append(texts, t.text)
	}
	c.WantRoom(c.Space.Store(c.DB, to, api.Value{Kind: api.ValList, List: texts}))
	return command.Int(len(texts))
}
