package nest_test

import (
	"cmp"
	"fmt"
	"maps"
	"math/big"
	"regexp"
	"slices"
	"strconv"
	"strings"

	"larder/api"
	"larder/match"
)

// cell is what lies at a place of the model: a hash's fields with their values, a set's members with empty ones, or a text, as the one name there. The names are never changed, only laid anew.
type cell struct {
	kind     int
	names    map[string]string
	deadline uint64
}

func (c cell) equal(d cell) bool {
	return c.kind == d.kind && maps.Equal(c.names, d.names) && c.deadline == d.deadline
}

func (c cell) sorted() []string { return slices.Sorted(maps.Keys(c.names)) }

func (c cell) value() api.Value {
	switch c.kind {
	case api.ValSet:
		return api.Value{Kind: c.kind, List: args(c.sorted()...)}
	case api.ValHash:
		v := api.Value{Kind: c.kind}
		for _, name := range c.sorted() {
			v.Pairs = append(v.Pairs, api.Pair{Field: []byte(name), Value: []byte(c.names[name])})
		}
		return v
	}
	return api.Value{Kind: c.kind, Text: []byte(c.sorted()[0])}
}

// model is a space as plain data, and the commands on it as the chapter words them; numbers are exact.
type model struct {
	cells map[api.Place]cell
	clock uint64
	quota int
	seed  uint64
	db    int
	kind  int      // that the command wants
	args  []string // that are left to read
}

// stop is what a command of the model panics with.
type stop api.Errno

func need(holds bool, e api.Errno) {
	if !holds {
		panic(stop(e))
	}
}

func (m *model) cost() int {
	sum := 0
	for p, c := range m.cells {
		sum += 24 + words8(len(p.Key))
		if c.kind != api.ValText {
			sum += 40 + 16*len(c.names)
		}
		for name, value := range c.names {
			sum += words8(len(name))
			if c.kind == api.ValHash {
				sum += words8(len(value))
			}
		}
	}
	return sum
}

func (m *model) places() []api.Place {
	return slices.SortedFunc(maps.Keys(m.cells), func(a, b api.Place) int {
		return cmp.Or(cmp.Compare(a.DB, b.DB), strings.Compare(a.Key, b.Key))
	})
}

// picture tells a model as picture tells a space.
func (m *model) picture() string {
	var b strings.Builder
	for _, p := range m.places() {
		c := m.cells[p]
		fmt.Fprintf(&b, "%d %q %d: %s\n", p.DB, p.Key, c.deadline, show(c.value()))
	}
	return b.String()
}

// do is Do, with the reply as told writes it.
func (m *model) do(now uint64, db int, command []string) (reply string) {
	m.clock = max(m.clock, min(now, api.MaxTime))
	maps.DeleteFunc(m.cells, func(_ api.Place, c cell) bool { return c.deadline != 0 && c.deadline <= m.clock })
	before := maps.Clone(m.cells)
	defer func() {
		switch e := recover().(type) {
		case nil:
			maps.DeleteFunc(m.cells, func(_ api.Place, c cell) bool { return len(c.names) == 0 })
			if m.cost() > m.quota {
				m.cells, reply = before, refusal(api.BadOOM)
			}
		case stop:
			m.cells, reply = before, refusal(api.Errno(e))
		default:
			panic(e)
		}
	}()
	need(len(command) > 0 && len(command) <= 128, api.BadMany)
	for _, a := range command {
		need(len(a) <= 4096, api.BadLong)
	}
	need(db >= 0 && db <= 3, api.BadDB)
	m.db, m.args = db, command[1:]
	return m.carryOut(strings.ToUpper(command[0]), len(command))
}

func (m *model) carryOut(name string, n int) string {
	i := slices.IndexFunc(strings.Split(chapterTable, "\n"), func(l string) bool { return strings.HasPrefix(l, name+" ") })
	need(name != "" && i > 0, api.BadName)
	arity, _ := strconv.Atoi(strings.Fields(strings.Split(chapterTable, "\n")[i])[1])
	need(n == arity || arity < 0 && n >= -arity, api.BadArity)
	need(name != "HSET" || n%2 == 0, api.BadArity)
	switch {
	case strings.HasSuffix(name, "SCAN"):
		m.kind = map[byte]int{'H': api.ValHash, 'S': api.ValSet}[name[0]]
		return m.scan()
	case name[0] == 'H':
		m.kind = api.ValHash
		return m.onHash(name)
	case strings.HasPrefix(name, "SUNION") || strings.HasPrefix(name, "SINTER") || strings.HasPrefix(name, "SDIFF"):
		m.kind = api.ValSet
		return m.combine(name)
	}
	m.kind = api.ValSet
	return m.onSet(name)
}

func (m *model) next() string {
	a := m.args[0]
	m.args = m.args[1:]
	return a
}

var spelling = regexp.MustCompile(`^(0|-?[1-9][0-9]*)$`)

// exact reads an integer that may be of any size.
func exact(s string) (*big.Int, bool) {
	if !spelling.MatchString(s) {
		return nil, false
	}
	return new(big.Int).SetString(s, 10)
}

// integer tells the integer of a text; what is outside int64 is none.
func integer(s string) *big.Int {
	n, ok := exact(s)
	need(ok && n.IsInt64(), api.BadInt)
	return n
}

// cell tells what lies under a key, which must be of the kind that is wanted.
func (m *model) cell(key string) cell {
	c, there := m.cells[at(m.db, key)]
	need(!there || c.kind == m.kind, api.BadKind)
	return c
}

// put lays names under a key; its deadline stays, if it is there.
func (m *model) put(key string, names map[string]string) {
	c := m.cells[at(m.db, key)]
	m.cells[at(m.db, key)] = cell{m.kind, names, c.deadline}
}

// edited tells the names of a key, to be changed.
func (m *model) edited(key string) map[string]string {
	names := maps.Clone(m.cell(key).names)
	if names == nil {
		names = map[string]string{}
	}
	return names
}

// values tells, of each name, its value as told writes it.
func (c cell) values(names []string) []string {
	var l []string
	for _, name := range names {
		value, there := c.names[name]
		if there {
			l = append(l, strconv.Quote(value))
		} else {
			l = append(l, "nil")
		}
	}
	return l
}

func (m *model) onHash(name string) string {
	key := m.next()
	switch name {
	case "HSET", "HSETNX", "HINCRBY", "HDEL":
		return m.changeHash(name, key)
	}
	c := m.cell(key)
	switch name {
	case "HGET":
		return c.values(m.args)[0]
	case "HMGET":
		return "[" + strings.Join(c.values(m.args), " ") + "]"
	case "HVALS":
		return "[" + strings.Join(c.values(c.sorted()), " ") + "]"
	case "HKEYS":
		return quoted(c.sorted())
	case "HGETALL":
		return quoted(c.flat(c.sorted()))
	case "HEXISTS":
		return strconv.Itoa(len(c.flat(m.args)) / 2)
	case "HSTRLEN":
		return strconv.Itoa(len(c.names[m.args[0]]))
	}
	return strconv.Itoa(len(c.names))
}

// flat tells each of the names that is there, and its value behind it.
func (c cell) flat(names []string) []string {
	var l []string
	for _, name := range names {
		if value, there := c.names[name]; there {
			l = append(l, name, value)
		}
	}
	return l
}

func (m *model) changeHash(name, key string) string {
	if name == "HINCRBY" {
		by := integer(m.args[1])
		names := m.edited(key)
		sum := new(big.Int)
		if was, there := names[m.args[0]]; there {
			sum = integer(was)
		}
		sum.Add(sum, by)
		need(sum.IsInt64(), api.BadOver)
		names[m.args[0]] = sum.String()
		m.put(key, names)
		return sum.String()
	}
	names := m.edited(key)
	before := len(names)
	for len(m.args) > 0 {
		field := m.next()
		if name == "HDEL" {
			delete(names, field)
			continue
		}
		value := m.next()
		if _, there := names[field]; !there || name == "HSET" {
			names[field] = value
		}
	}
	m.put(key, names)
	return strconv.Itoa(max(len(names)-before, before-len(names)))
}

func (m *model) onSet(name string) string {
	key := m.next()
	switch name {
	case "SADD", "SREM":
		names := m.edited(key)
		before := len(names)
		for _, member := range m.args {
			if name == "SADD" {
				names[member] = ""
			} else {
				delete(names, member)
			}
		}
		m.put(key, names)
		return strconv.Itoa(max(len(names)-before, before-len(names)))
	case "SMOVE":
		return m.move(key)
	case "SPOP":
		return m.pop(key)
	}
	c := m.cell(key)
	switch name {
	case "SMEMBERS":
		return quoted(c.sorted())
	case "SCARD":
		return strconv.Itoa(len(c.names))
	}
	asked := strings.NewReplacer(`""`, "1", "nil", "0").Replace(strings.Join(c.values(m.args), " "))
	if name == "SISMEMBER" {
		return asked
	}
	return "[" + asked + "]"
}

func (m *model) move(from string) string {
	to, member := m.next(), m.next()
	names := m.edited(from)
	m.cell(to)
	if _, there := names[member]; !there {
		return "0"
	}
	delete(names, member)
	m.put(from, names)
	names = m.edited(to)
	names[member] = ""
	m.put(to, names)
	return "1"
}

func (m *model) pop(key string) string {
	one, count := len(m.args) == 0, big.NewInt(1)
	if !one {
		count = integer(m.next())
		need(count.Sign() >= 0, api.BadRange)
		need(len(m.args) == 0, api.BadSyntax)
	}
	var gone []string
	names := m.edited(key)
	for _, member := range m.cell(key).sorted() {
		if big.NewInt(int64(len(gone))).Cmp(count) < 0 {
			gone = append(gone, member)
			delete(names, member)
		}
	}
	m.put(key, names)
	switch {
	case !one:
		return quoted(gone)
	case len(gone) == 0:
		return "nil"
	}
	return strconv.Quote(gone[0])
}

// combine asks of every member of any set whether it is in each of the keys' sets.
func (m *model) combine(name string) string {
	to, keys, limit := "", m.args, new(big.Int)
	if strings.HasSuffix(name, "STORE") {
		to, keys = m.args[0], m.args[1:]
	}
	if name == "SINTERCARD" {
		keys, limit = m.counted()
	}
	found := map[string]string{}
	for _, key := range keys {
		maps.Copy(found, m.cell(key).names)
	}
	for i, key := range keys {
		c := m.cell(key)
		maps.DeleteFunc(found, func(member, _ string) bool {
			_, there := c.names[member]
			return !there && name[1] == 'I' || name[1] == 'D' && there == (i > 0)
		})
	}
	switch {
	case name == "SINTERCARD":
		n := big.NewInt(int64(len(found)))
		if limit.Sign() > 0 && limit.Cmp(n) < 0 {
			n = limit
		}
		return n.String()
	case strings.HasSuffix(name, "STORE"):
		m.cells[at(m.db, to)] = cell{kind: api.ValSet, names: found}
		return strconv.Itoa(len(found))
	}
	return quoted(cell{names: found}.sorted())
}

// counted reads SINTERCARD's arguments.
func (m *model) counted() ([]string, *big.Int) {
	n, limit := integer(m.next()), new(big.Int)
	need(n.Sign() > 0, api.BadRange)
	need(n.Cmp(big.NewInt(int64(len(m.args)))) <= 0, api.BadSyntax)
	keys := m.args[:n.Int64()]
	m.args = m.args[n.Int64():]
	if len(m.args) > 0 {
		need(strings.ToUpper(m.next()) == "LIMIT" && len(m.args) > 0, api.BadSyntax)
		limit = integer(m.next())
		need(limit.Sign() >= 0, api.BadRange)
		need(len(m.args) == 0, api.BadSyntax)
	}
	return keys, limit
}

func (m *model) scan() string {
	key := m.next()
	cursor, ok := exact(m.next())
	need(ok && cursor.IsUint64(), api.BadCursor)
	given := map[string]string{}
	count := big.NewInt(10)
	for len(m.args) > 0 {
		w := strings.ToUpper(m.next())
		_, again := given[w]
		need(!again && (w == "MATCH" || w == "COUNT") && len(m.args) > 0, api.BadSyntax)
		given[w] = m.next()
		if w == "COUNT" {
			count = integer(given[w])
			need(count.Sign() > 0, api.BadRange)
		}
	}
	c := m.cell(key)
	n := 1 << 30
	if count.Cmp(big.NewInt(int64(n))) < 0 {
		n = int(count.Int64())
	}
	next, page := paged(m.seed, cursor.Uint64(), n, c.sorted())
	if pattern, there := given["MATCH"]; there {
		page = slices.DeleteFunc(page, func(name string) bool { return !match.Glob([]byte(pattern), []byte(name)) })
	}
	if m.kind == api.ValHash {
		page = c.flat(page)
	}
	return fmt.Sprintf(`["%d" %s]`, next, quoted(page))
}
