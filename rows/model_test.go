package rows_test

import (
	"cmp"
	"fmt"
	"maps"
	"math/big"
	"regexp"
	"slices"
	"strconv"
	"strings"

	"larder/api"
)

// cell is what lies at a place of the model: a list, or a text of one element where other is true. A list is never changed, only laid anew.
type cell struct {
	list     []string
	other    bool
	deadline uint64
}

func (c cell) equal(d cell) bool {
	return slices.Equal(c.list, d.list) && c.other == d.other && c.deadline == d.deadline
}

// model is a space as plain data, and the commands on it as the chapter words them; numbers are exact.
type model struct {
	cells map[api.Place]cell
	clock uint64
	quota int
	db    int
	args  []string // that are left to read
}

// stop is what a command of the model panics with.
type stop api.Errno

func need(holds bool, e api.Errno) {
	if !holds {
		panic(stop(e))
	}
}

func (m *model) cost() int {
	sum := 0
	for p, c := range m.cells {
		sum += 24 + words8(len(p.Key))
		if !c.other {
			sum += 8 + 6*len(c.list)
		}
		for _, element := range c.list {
			sum += words8(len(element))
		}
	}
	return sum
}

func (m *model) places() []api.Place {
	return slices.SortedFunc(maps.Keys(m.cells), func(a, b api.Place) int {
		return cmp.Or(cmp.Compare(a.DB, b.DB), strings.Compare(a.Key, b.Key))
	})
}

// picture tells a model as picture tells a space.
func (m *model) picture() string {
	var b strings.Builder
	for _, p := range m.places() {
		c := m.cells[p]
		v := api.Value{Kind: api.ValList, List: args(c.list...)}
		if c.other {
			v = api.Value{Kind: api.ValText, Text: []byte(c.list[0])}
		}
		fmt.Fprintf(&b, "%d %q %d: %s\n", p.DB, p.Key, c.deadline, show(v))
	}
	return b.String()
}

// do is Do, with the reply as told writes it.
func (m *model) do(now uint64, db int, command []string) (reply string) {
	m.clock = max(m.clock, min(now, api.MaxTime))
	maps.DeleteFunc(m.cells, func(_ api.Place, c cell) bool { return c.deadline != 0 && c.deadline <= m.clock })
	before := maps.Clone(m.cells)
	defer func() {
		switch e := recover().(type) {
		case nil:
			maps.DeleteFunc(m.cells, func(_ api.Place, c cell) bool { return len(c.list) == 0 })
			if m.cost() > m.quota {
				m.cells, reply = before, refusal(api.BadOOM)
			}
		case stop:
			m.cells, reply = before, refusal(api.Errno(e))
		default:
			panic(e)
		}
	}()
	need(len(command) > 0 && len(command) <= 128, api.BadMany)
	for _, a := range command {
		need(len(a) <= 4096, api.BadLong)
	}
	need(db >= 0 && db <= 3, api.BadDB)
	m.db, m.args = db, command[1:]
	return m.carryOut(strings.ToUpper(command[0]), len(command))
}

func (m *model) carryOut(name string, n int) string {
	i := slices.IndexFunc(strings.Split(table, "\n"), func(l string) bool { return strings.HasPrefix(l, name+" ") })
	need(name != "" && i > 0, api.BadName)
	arity, _ := strconv.Atoi(strings.Fields(strings.Split(table, "\n")[i])[1])
	need(n == arity || arity < 0 && n >= -arity, api.BadArity)
	switch name {
	case "LMPOP":
		return m.popFirst()
	case "LMOVE", "RPOPLPUSH":
		return m.move(name)
	case "LPOS":
		return m.positions()
	case "LPUSH", "RPUSH", "LPUSHX", "RPUSHX", "LPOP", "RPOP":
		return m.ends(name)
	}
	return m.inside(name)
}

func (m *model) next() string {
	a := m.args[0]
	m.args = m.args[1:]
	return a
}

func (m *model) oneOf(l ...string) string {
	w := strings.ToUpper(m.next())
	need(slices.Contains(l, w), api.BadSyntax)
	return w
}

var spelling = regexp.MustCompile(`^(0|-?[1-9][0-9]*)$`)

// number reads an exact integer; what is outside int64 is none.
func (m *model) number() *big.Int {
	s := m.next()
	need(spelling.MatchString(s), api.BadInt)
	n, _ := new(big.Int).SetString(s, 10)
	need(n.IsInt64(), api.BadInt)
	return n
}

// list tells a key's list; false, if it is absent.
func (m *model) list(key string) ([]string, bool) {
	c, there := m.cells[at(m.db, key)]
	need(!c.other, api.BadKind)
	return c.list, there
}

func (m *model) lay(key string, parts ...[]string) int {
	c := m.cells[at(m.db, key)]
	c.list = slices.Concat(parts...)
	m.cells[at(m.db, key)] = c
	return len(c.list)
}

func quoted(l []string) string {
	var found []string
	for _, s := range l {
		found = append(found, strconv.Quote(s))
	}
	return "[" + strings.Join(found, " ") + "]"
}

func backwards(l []string) []string {
	l = slices.Clone(l)
	slices.Reverse(l)
	return l
}

// pop takes n elements away, or all, seen from an end, and tells them so.
func (m *model) pop(key string, left bool, n *big.Int) []string {
	l, _ := m.list(key)
	k := len(l)
	if n.Cmp(big.NewInt(int64(k))) < 0 {
		k = int(n.Int64())
	}
	if left {
		m.lay(key, l[k:])
		return l[:k]
	}
	m.lay(key, l[:len(l)-k])
	return backwards(l[len(l)-k:])
}

func (m *model) push(key string, left bool, elements []string) int {
	l, _ := m.list(key)
	if left {
		return m.lay(key, backwards(elements), l)
	}
	return m.lay(key, l, elements)
}

func (m *model) ends(name string) string {
	key, left := m.next(), name[0] == 'L'
	if name[1:] == "POP" {
		if len(m.args) == 0 {
			if _, there := m.list(key); !there {
				return "nil"
			}
			return strconv.Quote(m.pop(key, left, big.NewInt(1))[0])
		}
		n := m.number()
		need(n.Sign() >= 0, api.BadRange)
		need(len(m.args) == 0, api.BadSyntax)
		if _, there := m.list(key); !there {
			return "nil array"
		}
		return quoted(m.pop(key, left, n))
	}
	_, there := m.list(key)
	if strings.HasSuffix(name, "X") && !there {
		return "0"
	}
	return strconv.Itoa(m.push(key, left, m.args))
}

func (m *model) popFirst() string {
	n := m.number()
	need(n.Sign() > 0, api.BadRange)
	need(n.Cmp(big.NewInt(int64(len(m.args)))) < 0, api.BadSyntax)
	keys := m.args[:n.Int64()]
	m.args = m.args[n.Int64():]
	left, count := m.oneOf("LEFT", "RIGHT") == "LEFT", big.NewInt(1)
	if len(m.args) > 0 {
		m.oneOf("COUNT")
		need(len(m.args) > 0, api.BadSyntax)
		count = m.number()
		need(count.Sign() > 0, api.BadRange)
		need(len(m.args) == 0, api.BadSyntax)
	}
	first := ""
	found := false
	for _, key := range keys {
		if _, there := m.list(key); there && !found {
			first, found = key, true
		}
	}
	if !found {
		return "nil array"
	}
	return "[" + strconv.Quote(first) + " " + quoted(m.pop(first, left, count)) + "]"
}

func (m *model) move(name string) string {
	source, destination, from, to := m.next(), m.next(), "RIGHT", "LEFT"
	if name == "LMOVE" {
		from = m.oneOf("LEFT", "RIGHT")
		to = m.oneOf("LEFT", "RIGHT")
	}
	_, there := m.list(source)
	m.list(destination)
	if !there {
		return "nil"
	}
	moved := m.pop(source, from == "LEFT", big.NewInt(1))
	m.push(destination, to == "LEFT", moved)
	return strconv.Quote(moved[0])
}

// positions goes from place to place, counting down what is passed over, what is wanted, what may be looked at.
func (m *model) positions() string {
	key, element := m.next(), m.next()
	given := map[string]*big.Int{}
	for len(m.args) > 0 {
		w := m.oneOf("RANK", "COUNT", "MAXLEN")
		need(given[w] == nil && len(m.args) > 0, api.BadSyntax)
		given[w] = m.number()
		need(given[w].Sign() > 0 || w == "RANK" && given[w].Sign() < 0 || w != "RANK" && given[w].Sign() == 0, api.BadRange)
	}
	list, _ := m.list(key)
	rank, one := big.NewInt(1), big.NewInt(1)
	if given["RANK"] != nil {
		rank = given["RANK"]
	}
	pass := new(big.Int).Abs(rank)
	i, step := 0, 1
	if rank.Sign() < 0 {
		i, step = len(list)-1, -1
	}
	room := new(big.Int)
	if given["MAXLEN"] != nil {
		room.Set(given["MAXLEN"])
	}
	endless := room.Sign() == 0
	var found []string
	for ; i >= 0 && i < len(list) && (endless || room.Sign() > 0); i += step {
		room.Sub(room, one)
		if list[i] != element {
			continue
		}
		if pass.Cmp(one) > 0 {
			pass.Sub(pass, one)
			continue
		}
		found = append(found, strconv.Itoa(i))
	}
	count := given["COUNT"]
	if count == nil {
		return append(found, "nil")[0]
	}
	if count.Sign() > 0 && count.Cmp(big.NewInt(int64(len(found)))) < 0 {
		found = found[:count.Int64()]
	}
	return "[" + strings.Join(found, " ") + "]"
}

// isIn tells whether element i of n lies from start to stop.
func isIn(i, n int, start, stop *big.Int) bool {
	end := func(b *big.Int) *big.Int {
		if b.Sign() < 0 {
			return new(big.Int).Add(b, big.NewInt(int64(n)))
		}
		return b
	}
	at := big.NewInt(int64(i))
	return at.Cmp(end(start)) >= 0 && at.Cmp(end(stop)) <= 0
}

// inWindow tells the elements from start to stop.
func inWindow(l []string, start, stop *big.Int) []string {
	var found []string
	for i, element := range l {
		if isIn(i, len(l), start, stop) {
			found = append(found, element)
		}
	}
	return found
}

// placeOf tells which element an index means; -1: none.
func placeOf(l []string, index *big.Int) int {
	for i := range l {
		if isIn(i, len(l), index, index) {
			return i
		}
	}
	return -1
}

func (m *model) inside(name string) string {
	key := m.next()
	switch name {
	case "LLEN":
		l, _ := m.list(key)
		return strconv.Itoa(len(l))
	case "LRANGE", "LTRIM":
		start := m.number()
		stop := m.number()
		l, there := m.list(key)
		if name == "LRANGE" {
			return quoted(inWindow(l, start, stop))
		}
		if there {
			m.lay(key, inWindow(l, start, stop))
		}
		return "OK"
	case "LINDEX", "LSET":
		index := m.number()
		l, there := m.list(key)
		i := placeOf(l, index)
		if name == "LSET" {
			need(there, api.BadKey)
			need(i >= 0, api.BadRange)
			m.lay(key, l[:i], []string{m.next()}, l[i+1:])
			return "OK"
		}
		if i < 0 {
			return "nil"
		}
		return strconv.Quote(l[i])
	case "LINSERT":
		return m.insert(key)
	}
	return m.strike(key)
}

func (m *model) insert(key string) string {
	where, pivot, element := m.oneOf("BEFORE", "AFTER"), m.next(), m.next()
	l, there := m.list(key)
	i := slices.Index(l, pivot)
	switch {
	case !there:
		return "0"
	case i < 0:
		return "-1"
	case where == "AFTER":
		i++
	}
	return strconv.Itoa(m.lay(key, l[:i], []string{element}, l[i:]))
}

func (m *model) strike(key string) string {
	count := m.number()
	element := m.next()
	l, there := m.list(key)
	if !there {
		return "0"
	}
	left, most := slices.Clone(l), new(big.Int).Abs(count)
	if count.Sign() < 0 {
		left = backwards(l)
	}
	gone := 0
	left = slices.DeleteFunc(left, func(s string) bool {
		if s != element || count.Sign() != 0 && big.NewInt(int64(gone)).Cmp(most) >= 0 {
			return false
		}
		gone++
		return true
	})
	if count.Sign() < 0 {
		left = backwards(left)
	}
	m.lay(key, left)
	return strconv.Itoa(gone)
}
