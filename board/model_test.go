package board_test

import (
	"cmp"
	"fmt"
	"maps"
	"math/big"
	"regexp"
	"slices"
	"strconv"
	"strings"

	"larder/api"
	"larder/match"
)

// cell is what lies at a place of the model. Its value is never changed, only laid anew.
type cell struct {
	value    api.Value
	deadline uint64
}

func (c cell) equal(d cell) bool { return show(c.value) == show(d.value) && c.deadline == d.deadline }

// cost is what the cell costs by R9, its key not counted.
func (c cell) cost() int {
	sum := []int{0, words8(len(c.value.Text)), 8, 40, 40, 96}[c.value.Kind]
	for _, b := range c.value.List {
		sum += []int{0, 0, 6, 0, 16}[c.value.Kind] + words8(len(b))
	}
	for _, p := range c.value.Pairs {
		sum += 16 + words8(len(p.Field)) + words8(len(p.Value))
	}
	for _, m := range c.value.Ranked {
		sum += 40 + 2*words8(len(m.Member))
	}
	return sum
}

// model is a space as plain data, and the commands on it as the chapter words them; numbers are exact.
type model struct {
	cells map[api.Place]cell
	clock uint64
	quota int
	seed  uint64
	db    int
	args  []string // that are left to read
}

// stop is what a command of the model panics with.
type stop api.Errno

func need(holds bool, e api.Errno) {
	if !holds {
		panic(stop(e))
	}
}

func (m *model) cost() int {
	sum := 0
	for p, c := range m.cells {
		sum += 24 + words8(len(p.Key)) + c.cost()
	}
	return sum
}

func (m *model) places() []api.Place {
	return slices.SortedFunc(maps.Keys(m.cells), func(a, b api.Place) int {
		return cmp.Or(cmp.Compare(a.DB, b.DB), strings.Compare(a.Key, b.Key))
	})
}

// picture tells a model as picture tells a space.
func (m *model) picture() string {
	var b strings.Builder
	for _, p := range m.places() {
		c := m.cells[p]
		fmt.Fprintf(&b, "%d %q %d: %s\n", p.DB, p.Key, c.deadline, show(c.value))
	}
	return b.String()
}

// do is Do, with the reply as told writes it.
func (m *model) do(now uint64, db int, command []string) (reply string) {
	m.clock = max(m.clock, min(now, api.MaxTime))
	maps.DeleteFunc(m.cells, func(_ api.Place, c cell) bool { return c.deadline != 0 && c.deadline <= m.clock })
	before := maps.Clone(m.cells)
	defer func() {
		switch e := recover().(type) {
		case nil:
			if m.cost() > m.quota {
				m.cells, reply = before, refusal(api.BadOOM)
			}
		case stop:
			m.cells, reply = before, refusal(api.Errno(e))
		default:
			panic(e)
		}
	}()
	need(len(command) > 0 && len(command) <= 128, api.BadMany)
	for _, a := range command {
		need(len(a) <= 4096, api.BadLong)
	}
	need(db >= 0 && db <= 3, api.BadDB)
	m.db, m.args = db, command[1:]
	name := strings.ToUpper(command[0])
	i := slices.IndexFunc(chapterRows(), func(c api.Command) bool { return c.Name == name })
	need(i >= 0, api.BadName)
	need(takes(chapterRows()[i], len(command)), api.BadArity)
	return m.carryOut(name)
}

func (m *model) carryOut(name string) string {
	switch name {
	case "DEL", "EXISTS", "TOUCH":
		return m.count(name == "DEL")
	case "TYPE":
		return []string{"none", "string", "list", "hash", "set", "zset"}[m.kind(m.next())]
	case "EXPIRE", "PEXPIRE", "EXPIREAT", "PEXPIREAT":
		return m.expire(name)
	case "TTL", "PTTL", "EXPIRETIME", "PEXPIRETIME", "PERSIST":
		return m.deadline(name)
	case "RENAME", "RENAMENX":
		return m.rename(name == "RENAMENX")
	case "COPY":
		return m.copy()
	case "MOVE":
		return m.move()
	case "SWAPDB":
		return m.swap(m.number(), m.number())
	case "KEYS", "DBSIZE", "SCAN":
		return m.keysOf(name)
	case "FLUSHDB", "FLUSHALL":
		maps.DeleteFunc(m.cells, func(p api.Place, _ cell) bool { return name == "FLUSHALL" || p.DB == m.db })
		return "OK"
	case "SORT":
		return m.sort()
	case "TIME":
		return quoted([]string{fmt.Sprint(m.clock / 1000), fmt.Sprint(m.clock % 1000 * 1000)})
	case "MEMORY":
		return m.memory()
	}
	return m.command()
}

func (m *model) next() string {
	a := m.args[0]
	m.args = m.args[1:]
	return a
}

func (m *model) here(key string) api.Place { return at(m.db, key) }

func (m *model) kind(key string) int { return m.cells[m.here(key)].value.Kind }

func flag(holds bool) string {
	if holds {
		return "1"
	}
	return "0"
}

var spelling = regexp.MustCompile(`^(0|-?[1-9][0-9]*)$`)

// exact reads an integer that may be of any size.
func exact(s string) (*big.Int, bool) {
	if !spelling.MatchString(s) {
		return nil, false
	}
	return new(big.Int).SetString(s, 10)
}

// integer tells the integer of a text; what is outside int64 is none.
func integer(s string) int64 {
	n, ok := exact(s)
	need(ok && n.IsInt64(), api.BadInt)
	return n.Int64()
}

// number reads the number of a database.
func (m *model) number() int {
	n := integer(m.next())
	need(n >= 0 && n <= 3, api.BadDB)
	return int(n)
}

// option reads an option's word: one of those that are named, each with how many arguments must follow; none twice.
func (m *model) option(given map[string]int, behind map[string]int) string {
	w := strings.ToUpper(m.next())
	n, known := behind[w]
	need(known && given[w] == 0 && len(m.args) >= n, api.BadSyntax)
	given[w]++
	return w
}

func (m *model) count(takes bool) string {
	n := 0
	for _, key := range m.args {
		if m.kind(key) != api.ValNone {
			n++
		}
		if takes {
			delete(m.cells, m.here(key))
		}
	}
	return fmt.Sprint(n)
}

func (m *model) expire(name string) string {
	p := m.here(m.next())
	d := deadlineOf(name, m.clock, integer(m.next()))
	need(d.Cmp(big.NewInt(api.MaxTime)) <= 0, api.BadTime)
	given := map[string]int{}
	for len(m.args) > 0 {
		m.option(given, map[string]int{"NX": 0, "XX": 0, "GT": 0, "LT": 0})
		need(given["NX"] == 0 || len(given) == 1, api.BadSyntax)
		need(given["GT"]+given["LT"] < 2, api.BadSyntax)
	}
	c, there := m.cells[p]
	if !there || !allowed(strings.Join(slices.Collect(maps.Keys(given)), " "), c.deadline, d) {
		return "0"
	}
	delete(m.cells, p)
	if d.Cmp(new(big.Int).SetUint64(m.clock)) > 0 {
		c.deadline = d.Uint64()
		m.cells[p] = c
	}
	return "1"
}

func (m *model) deadline(name string) string {
	p := m.here(m.next())
	c, there := m.cells[p]
	switch {
	case name == "PERSIST":
		if there {
			m.cells[p] = cell{value: c.value}
		}
		return flag(c.deadline != 0)
	case !there:
		return "-2"
	case c.deadline == 0:
		return "-1"
	}
	n := c.deadline
	if strings.HasSuffix(name, "TTL") {
		n -= m.clock
	}
	switch name {
	case "TTL":
		n = (n + 999) / 1000
	case "EXPIRETIME":
		n /= 1000
	}
	return fmt.Sprint(n)
}

func (m *model) rename(onlyFree bool) string {
	from, to := m.here(m.next()), m.here(m.next())
	c, there := m.cells[from]
	need(there, api.BadKey)
	_, taken := m.cells[to]
	if !onlyFree || !taken {
		delete(m.cells, from)
		m.cells[to] = c
	}
	if onlyFree {
		return flag(!taken)
	}
	return "OK"
}

func (m *model) copy() string {
	from, to := m.here(m.next()), m.here(m.next())
	given := map[string]int{}
	for len(m.args) > 0 {
		if m.option(given, map[string]int{"DB": 1, "REPLACE": 0}) == "DB" {
			to.DB = m.number()
		}
	}
	need(from != to, api.BadSame)
	c, there := m.cells[from]
	_, taken := m.cells[to]
	if !there || taken && given["REPLACE"] == 0 {
		return "0"
	}
	m.cells[to] = c
	return "1"
}

func (m *model) move() string {
	from := m.here(m.next())
	to := api.Place{DB: m.number(), Key: from.Key}
	need(from != to, api.BadSame)
	c, there := m.cells[from]
	_, taken := m.cells[to]
	if !there || taken {
		return "0"
	}
	delete(m.cells, from)
	m.cells[to] = c
	return "1"
}

func (m *model) swap(a, b int) string {
	swapped := map[api.Place]cell{}
	for p, c := range m.cells {
		switch p.DB {
		case a:
			p.DB = b
		case b:
			p.DB = a
		}
		swapped[p] = c
	}
	m.cells = swapped
	return "OK"
}

// keysOf answers KEYS, DBSIZE and SCAN.
func (m *model) keysOf(name string) string {
	var all []string
	for _, p := range m.places() {
		if p.DB == m.db {
			all = append(all, p.Key)
		}
	}
	switch name {
	case "DBSIZE":
		return fmt.Sprint(len(all))
	case "KEYS":
		return quoted(fitting(m.next(), all))
	}
	return m.scan(all)
}

func fitting(pattern string, names []string) []string {
	return slices.DeleteFunc(names, func(name string) bool { return !match.Glob([]byte(pattern), []byte(name)) })
}

func (m *model) scan(all []string) string {
	cursor, ok := exact(m.next())
	need(ok && cursor.IsUint64(), api.BadCursor)
	given := map[string]int{}
	count, pattern, kind := int64(10), "*", 0
	for len(m.args) > 0 {
		switch m.option(given, map[string]int{"MATCH": 1, "COUNT": 1, "TYPE": 1}) {
		case "MATCH":
			pattern = m.next()
		case "COUNT":
			count = integer(m.next())
			need(count > 0, api.BadRange)
		case "TYPE":
			kind = 1 + slices.Index([]string{"STRING", "LIST", "HASH", "SET", "ZSET"}, strings.ToUpper(m.next()))
			need(kind > 0, api.BadSyntax)
		}
	}
	next, page := paged(m.seed, cursor.Uint64(), int(min(count, 65536)), all)
	page = slices.DeleteFunc(fitting(pattern, page), func(key string) bool { return kind != 0 && m.kind(key) != kind })
	return fmt.Sprintf(`["%d" %s]`, next, quoted(page))
}

func (m *model) memory() string {
	w := strings.ToUpper(m.next())
	need(w == "USAGE" && len(m.args) == 1 || (w == "USED" || w == "QUOTA") && len(m.args) == 0, api.BadSyntax)
	switch w {
	case "USED":
		return fmt.Sprint(m.cost())
	case "QUOTA":
		return fmt.Sprint(m.quota)
	}
	key := m.next()
	c, there := m.cells[m.here(key)]
	if !there {
		return "nil"
	}
	return fmt.Sprint(24 + words8(len(key)) + c.cost())
}

func (m *model) command() string {
	w := strings.ToUpper(m.next())
	need(w == "COUNT" && len(m.args) == 0 || w == "GETKEYS", api.BadSyntax)
	if w == "COUNT" {
		return fmt.Sprint(len(wholeTable()))
	}
	need(len(m.args) > 0, api.BadName)
	i := slices.IndexFunc(wholeTable(), func(c api.Command) bool { return c.Name == strings.ToUpper(m.args[0]) })
	need(i >= 0, api.BadName)
	c := wholeTable()[i]
	need(takes(c, len(m.args)), api.BadArity)
	n := 0
	if c.Count > 0 {
		number, ok := exact(m.args[c.Count])
		need(ok && number.IsInt64() && number.Sign() > 0 && number.Cmp(big.NewInt(int64(len(m.args)-1-c.Count))) <= 0, api.BadSyntax)
		n = int(number.Int64())
	}
	var keys []string
	for _, i := range keysOf(c, len(m.args), n) {
		keys = append(keys, m.args[i])
	}
	need(len(keys) > 0, api.BadSyntax)
	return quoted(keys)
}

// finds tells what a pattern finds for an element; nil: nothing.
func (m *model) finds(pattern, element string) *string {
	ahead, behind, star := strings.Cut(pattern, "*")
	if !star {
		return nil
	}
	part, field, _ := strings.Cut(behind, "->")
	if field == "" {
		v := m.cells[m.here(ahead+element+behind)].value
		if v.Kind != api.ValText {
			return nil
		}
		text := string(v.Text)
		return &text
	}
	for _, p := range m.cells[m.here(ahead+element+part)].value.Pairs {
		if string(p.Field) == field {
			text := string(p.Value)
			return &text
		}
	}
	return nil
}

// sortOptions is what stands behind SORT's key.
type sortOptions struct {
	by, store     *string
	gets          []string
	offset, count int64
	desc, alpha   bool
}

func (m *model) sortOptions() sortOptions {
	o := sortOptions{count: -1}
	given := map[string]int{}
	for len(m.args) > 0 {
		w := m.option(given, map[string]int{"BY": 1, "LIMIT": 2, "GET": 1, "ASC": 0, "DESC": 0, "ALPHA": 0, "STORE": 1})
		need(given["ASC"]+given["DESC"] < 2, api.BadSyntax)
		switch w {
		case "BY", "STORE":
			text := m.next()
			if w == "BY" {
				o.by = &text
			} else {
				o.store = &text
			}
		case "GET":
			o.gets = append(o.gets, m.next())
			delete(given, w)
		case "LIMIT":
			o.offset = integer(m.next())
			o.count = integer(m.next())
		}
	}
	o.desc, o.alpha = given["DESC"] > 0, given["ALPHA"] > 0
	return o
}

func (m *model) sort() string {
	p := m.here(m.next())
	o := m.sortOptions()
	v := m.cells[p].value
	need(v.Kind != api.ValText && v.Kind != api.ValHash, api.BadKind)
	elements := texts(v.List)
	for _, r := range v.Ranked {
		elements = append(elements, string(r.Member))
	}
	elements = m.arranged(o, elements)
	var told []*string
	size := 0
	for i, element := range elements {
		if int64(i) < o.offset || o.count >= 0 && int64(i)-max(o.offset, 0) >= o.count {
			continue
		}
		for _, pattern := range o.gets {
			told = append(told, m.finds(pattern, element))
			if pattern == "#" {
				told[len(told)-1] = &element
			}
		}
		if len(o.gets) == 0 {
			told = append(told, &element)
		}
	}
	for _, text := range told {
		if text != nil {
			size += len(*text)
		}
	}
	need(len(told) <= 65536 && size <= 65536, api.BadLong)
	if o.store == nil {
		return toldOf(told)
	}
	return m.storeSorted(m.here(*o.store), told)
}

// arranged is the elements in the order that is asked for, by the plainest of sorts.
func (m *model) arranged(o sortOptions, elements []string) []string {
	weighed := o.by == nil || strings.Contains(*o.by, "*")
	var list []string
	for _, element := range elements {
		i := len(list)
		for weighed && i > 0 && m.less(o, element, list[i-1]) {
			i--
		}
		if weighed {
			m.less(o, element, element)
		}
		list = slices.Insert(list, i, element)
	}
	if o.desc {
		slices.Reverse(list)
	}
	return list
}

// less tells whether an element stands ahead of another.
func (m *model) less(o sortOptions, a, b string) bool {
	weight := func(element string) *string {
		if o.by == nil {
			return &element
		}
		return m.finds(*o.by, element)
	}
	u, v := weight(a), weight(b)
	if o.alpha {
		empty := ""
		if u == nil {
			u = &empty
		}
		if v == nil {
			v = &empty
		}
		return *u < *v || *u == *v && a < b
	}
	n, k := int64(0), int64(0)
	if u != nil {
		n = integer(*u)
	}
	if v != nil {
		k = integer(*v)
	}
	return n < k || n == k && a < b
}

func toldOf(list []*string) string {
	var l []string
	for _, text := range list {
		if text == nil {
			l = append(l, "nil")
		} else {
			l = append(l, strconv.Quote(*text))
		}
	}
	return "[" + strings.Join(l, " ") + "]"
}

func (m *model) storeSorted(to api.Place, list []*string) string {
	delete(m.cells, to)
	v := api.Value{Kind: api.ValList}
	for _, text := range list {
		if text == nil {
			v.List = append(v.List, nil)
		} else {
			v.List = append(v.List, []byte(*text))
		}
	}
	if len(list) > 0 {
		m.cells[to] = cell{value: v}
	}
	return fmt.Sprint(len(list))
}
