package text_test

import (
	"bytes"
	"cmp"
	"fmt"
	"maps"
	"math/big"
	"regexp"
	"slices"
	"strconv"
	"strings"

	"larder/api"
)

// cell is what lies at a place of the model: a text, or a list of one element where other is true.
type cell struct {
	text     string
	other    bool
	deadline uint64
}

// model is a space as plain data, and the commands on it as the chapter words them: numbers are exact, bits are digits.
type model struct {
	cells map[api.Place]cell
	clock uint64
	quota int
	db    int
	args  []string // that are left to read
}

// stop is what a command of the model panics with.
type stop api.Errno

func need(holds bool, e api.Errno) {
	if !holds {
		panic(stop(e))
	}
}

func (m *model) cost() int {
	sum := 0
	for p, c := range m.cells {
		sum += 24 + words8(len(p.Key))
		if c.other {
			sum += 8 + 6
		}
		sum += words8(len(c.text))
	}
	return sum
}

func (m *model) places() []api.Place {
	return slices.SortedFunc(maps.Keys(m.cells), func(a, b api.Place) int {
		return cmp.Or(cmp.Compare(a.DB, b.DB), strings.Compare(a.Key, b.Key))
	})
}

// picture tells a model as picture tells a space.
func (m *model) picture() string {
	var b strings.Builder
	for _, p := range m.places() {
		c := m.cells[p]
		v := api.Value{Kind: api.ValText, Text: []byte(c.text)}
		if c.other {
			v = api.Value{Kind: api.ValList, List: [][]byte{[]byte(c.text)}}
		}
		fmt.Fprintf(&b, "%d %q %d: %s\n", p.DB, p.Key, c.deadline, show(v))
	}
	return b.String()
}

// do is Do, with the reply as told writes it.
func (m *model) do(now uint64, db int, command []string) (reply string) {
	m.clock = max(m.clock, min(now, api.MaxTime))
	maps.DeleteFunc(m.cells, func(_ api.Place, c cell) bool { return c.deadline != 0 && c.deadline <= m.clock })
	before := maps.Clone(m.cells)
	defer func() {
		switch e := recover().(type) {
		case nil:
			if m.cost() > m.quota {
				m.cells, reply = before, refusal(api.BadOOM)
			}
		case stop:
			m.cells, reply = before, refusal(api.Errno(e))
		default:
			panic(e)
		}
	}()
	need(len(command) > 0 && len(command) <= 128, api.BadMany)
	for _, a := range command {
		need(len(a) <= 4096, api.BadLong)
	}
	need(db >= 0 && db <= 3, api.BadDB)
	m.db, m.args = db, command[1:]
	return m.carryOut(strings.ToUpper(command[0]), len(command))
}

func (m *model) carryOut(name string, n int) string {
	i := slices.IndexFunc(strings.Split(table, "\n"), func(l string) bool { return strings.HasPrefix(l, name+" ") })
	need(name != "" && i > 0, api.BadName)
	arity, _ := strconv.Atoi(strings.Fields(strings.Split(table, "\n")[i])[1])
	need(n == arity || arity < 0 && n >= -arity, api.BadArity)
	need(!strings.HasPrefix(name, "MSET") || n%2 == 1, api.BadArity)
	switch name {
	case "GET", "STRLEN", "GETSET", "GETDEL", "GETEX", "SETNX", "SETEX", "PSETEX", "SET":
		return m.whole(name)
	case "MGET", "MSET", "MSETNX":
		return m.many(name)
	case "APPEND", "GETRANGE", "SETRANGE", "INCR", "DECR", "INCRBY", "DECRBY":
		return m.part(name)
	case "BITFIELD":
		return m.fields()
	}
	return m.bits(name)
}

func (m *model) next() string {
	a := m.args[0]
	m.args = m.args[1:]
	return a
}

var spelling = regexp.MustCompile(`^(0|-?[1-9][0-9]*)$`)

func exact(s string) *big.Int {
	need(spelling.MatchString(s), api.BadInt)
	n, _ := new(big.Int).SetString(s, 10)
	need(n.IsInt64(), api.BadInt)
	return n
}

func (m *model) number() int64 { return exact(m.next()).Int64() }

func (m *model) at(key string) (cell, bool) {
	c, there := m.cells[at(m.db, key)]
	return c, there
}

// text is a key's text, which nothing but a text or nothing may lie under.
func (m *model) text(key string) (string, bool) {
	c, there := m.at(key)
	need(!c.other, api.BadKind)
	return c.text, there
}

func (m *model) lay(key, text string, deadline uint64) {
	m.cells[at(m.db, key)] = cell{text: text, deadline: deadline}
	if deadline != 0 && deadline <= m.clock {
		delete(m.cells, at(m.db, key))
	}
}

func (m *model) change(key, text string) {
	c, _ := m.at(key)
	m.lay(key, text, c.deadline)
}

func bulk(text string, there bool) string {
	if !there {
		return "nil"
	}
	return strconv.Quote(text)
}

func (m *model) time(unit string) uint64 {
	need(len(m.args) > 0, api.BadSyntax)
	n := exact(m.next())
	need(n.Sign() > 0, api.BadTime)
	d := new(big.Int).Set(n)
	if strings.HasPrefix(unit, "EX") {
		d.Mul(d, big.NewInt(1000))
	}
	if !strings.HasSuffix(unit, "AT") {
		d.Add(d, new(big.Int).SetUint64(m.clock))
	}
	need(d.Cmp(big.NewInt(1<<52)) <= 0, api.BadTime)
	return d.Uint64()
}

func (m *model) whole(name string) string {
	key := m.next()
	switch name {
	case "GET":
		return bulk(m.text(key))
	case "STRLEN":
		text, _ := m.text(key)
		return fmt.Sprint(len(text))
	case "GETSET":
		was, there := m.text(key)
		m.lay(key, m.next(), 0)
		return bulk(was, there)
	case "GETDEL":
		was, there := m.text(key)
		delete(m.cells, at(m.db, key))
		return bulk(was, there)
	case "GETEX":
		return m.getex(key)
	case "SETNX":
		if _, there := m.at(key); there {
			return "0"
		}
		m.lay(key, m.next(), 0)
		return "1"
	case "SETEX":
		deadline := m.time("EX")
		m.lay(key, m.next(), deadline)
		return "OK"
	case "PSETEX":
		deadline := m.time("PX")
		m.lay(key, m.next(), deadline)
		return "OK"
	}
	return m.set(key, m.next())
}

var timeWords = []string{"EX", "PX", "EXAT", "PXAT"}

func (m *model) getex(key string) string {
	deadline, options := uint64(0), 0
	for len(m.args) > 0 {
		w := strings.ToUpper(m.next())
		need(options == 0, api.BadSyntax)
		options++
		if slices.Contains(timeWords, w) {
			deadline = m.time(w)
		} else {
			need(w == "PERSIST", api.BadSyntax)
		}
	}
	was, there := m.text(key)
	if there && options > 0 {
		m.lay(key, was, deadline)
	}
	return bulk(was, there)
}

func (m *model) set(key, value string) string {
	given := map[string]int{}
	deadline := uint64(0)
	for len(m.args) > 0 {
		w := strings.ToUpper(m.next())
		switch {
		case w == "NX" || w == "XX":
			need(given["NX"]+given["XX"] == 0, api.BadSyntax)
		case w == "GET":
			need(given["GET"] == 0, api.BadSyntax)
		default:
			need(w == "KEEPTTL" || slices.Contains(timeWords, w), api.BadSyntax)
			need(given["KEEPTTL"]+given["EX"]+given["PX"]+given["EXAT"]+given["PXAT"] == 0, api.BadSyntax)
			if w != "KEEPTTL" {
				deadline = m.time(w)
			}
		}
		given[w]++
	}
	was, there := m.at(key)
	need(given["GET"] == 0 || !was.other, api.BadKind)
	if given["KEEPTTL"] > 0 {
		deadline = was.deadline
	}
	held := given["NX"] > 0 && there || given["XX"] > 0 && !there
	if !held {
		m.lay(key, value, deadline)
	}
	switch {
	case given["GET"] > 0:
		return bulk(was.text, there)
	case held:
		return "nil"
	}
	return "OK"
}

func (m *model) many(name string) string {
	if name == "MGET" {
		var l []string
		for _, key := range m.args {
			c, there := m.at(key)
			l = append(l, bulk(c.text, there && !c.other))
		}
		return "[" + strings.Join(l, " ") + "]"
	}
	reply := "OK"
	if name == "MSETNX" {
		reply = "1"
		for i := 0; i < len(m.args); i += 2 {
			if _, there := m.at(m.args[i]); there {
				return "0"
			}
		}
	}
	for i := 0; i < len(m.args); i += 2 {
		m.lay(m.args[i], m.args[i+1], 0)
	}
	return reply
}

func pad(s string, n int) string { return s + strings.Repeat("\x00", max(0, n-len(s))) }

func (m *model) part(name string) string {
	key := m.next()
	switch name {
	case "APPEND":
		text, _ := m.text(key)
		text += m.next()
		need(len(text) <= 4096, api.BadLong)
		m.change(key, text)
		return fmt.Sprint(len(text))
	case "GETRANGE":
		start := m.number()
		stop := m.number()
		text, _ := m.text(key)
		var b bytes.Buffer
		for i := range len(text) {
			if inside(int64(i), int64(len(text)), start, stop) {
				b.WriteByte(text[i])
			}
		}
		return bulk(b.String(), true)
	case "SETRANGE":
		offset := m.number()
		need(offset >= 0 && offset <= 4096, api.BadRange)
		value := m.next()
		text, _ := m.text(key)
		if value != "" {
			end := int(offset) + len(value)
			need(end <= 4096, api.BadLong)
			text = pad(text, end)
			text = text[:offset] + value + text[end:]
			m.change(key, text)
		}
		return fmt.Sprint(len(text))
	}
	by := big.NewInt(1)
	if strings.HasSuffix(name, "BY") {
		by = exact(m.next())
	}
	if name[0] == 'D' {
		by = new(big.Int).Neg(by)
	}
	sum := new(big.Int)
	if text, there := m.text(key); there {
		sum = exact(text)
	}
	sum = sum.Add(sum, by)
	need(sum.IsInt64(), api.BadOver)
	m.change(key, sum.String())
	return sum.String()
}

// span reads what BITCOUNT and BITPOS have in common: start, stop, the bits of a unit, how many of the two are given.
func (m *model) span(both bool) (start, stop, unit int64, given int) {
	start, stop, unit = 0, -1, 8
	if len(m.args) > 0 {
		start = m.number()
		given++
		need(len(m.args) > 0 || !both, api.BadSyntax)
	}
	if len(m.args) > 0 {
		stop = m.number()
		given++
	}
	if len(m.args) > 0 {
		w := strings.ToUpper(m.next())
		need(w == "BYTE" || w == "BIT", api.BadSyntax)
		if w == "BIT" {
			unit = 1
		}
	}
	need(len(m.args) == 0, api.BadSyntax)
	return
}

func (m *model) bits(name string) string {
	if name == "BITOP" {
		return m.bitop()
	}
	key := m.next()
	switch name {
	case "BITCOUNT":
		start, stop, unit, _ := m.span(true)
		text, _ := m.text(key)
		d, sum := digits(text), 0
		for i := range d {
			if d[i] == '1' && inside(int64(i)/unit, int64(len(d))/unit, start, stop) {
				sum++
			}
		}
		return fmt.Sprint(sum)
	case "BITPOS":
		bit := m.number()
		need(bit == 0 || bit == 1, api.BadBit)
		start, stop, unit, given := m.span(false)
		text, _ := m.text(key)
		return fmt.Sprint(firstBit(digits(text), byte('0'+bit), unit, start, stop, given == 2))
	}
	offset := m.number()
	need(offset >= 0 && offset < 8*4096, api.BadRange)
	bit := int64(0)
	if name == "SETBIT" {
		bit = m.number()
		need(bit == 0 || bit == 1, api.BadBit)
	}
	text, _ := m.text(key)
	d := digits(pad(text, int(offset/8+1)))
	was := d[offset : offset+1]
	if name == "SETBIT" {
		m.change(key, fromDigits(d[:offset]+fmt.Sprint(bit)+d[offset+1:]))
	}
	return was
}

func (m *model) bitop() string {
	op := strings.ToUpper(m.next())
	need(slices.Contains([]string{"AND", "OR", "XOR", "NOT"}, op), api.BadSyntax)
	dest := m.next()
	need(op != "NOT" || len(m.args) == 1, api.BadSyntax)
	var texts []string
	long := 0
	for _, key := range m.args {
		text, _ := m.text(key)
		texts = append(texts, digits(text))
		long = max(long, len(text))
	}
	result := make([]byte, 8*long)
	for i := range result {
		ones := 0
		for _, d := range texts {
			if i < len(d) && d[i] == '1' {
				ones++
			}
		}
		set := map[string]int{"AND": ones / len(texts), "OR": min(ones, 1), "XOR": ones % 2, "NOT": 1 - ones}[op]
		result[i] = byte('0' + set)
	}
	if long == 0 {
		delete(m.cells, at(m.db, dest))
	} else {
		m.lay(dest, fromDigits(string(result)), 0)
	}
	return fmt.Sprint(long)
}

var typeSpelling = regexp.MustCompile(`^[iu][1-9][0-9]?$`)

// step is an operation of BITFIELD.
type step struct {
	word, overflow string
	k              kind
	at             int
	n              *big.Int
}

func (m *model) steps() []step {
	var all []step
	overflow := "WRAP"
	for len(m.args) > 0 {
		w := strings.ToUpper(m.next())
		wants, known := map[string]int{"GET": 2, "SET": 3, "INCRBY": 3, "OVERFLOW": 1}[w]
		need(known && len(m.args) >= wants, api.BadSyntax)
		if w == "OVERFLOW" {
			overflow = strings.ToUpper(m.next())
			need(slices.Contains([]string{"WRAP", "SAT", "FAIL"}, overflow), api.BadSyntax)
			continue
		}
		s := step{word: w, overflow: overflow}
		name := m.next()
		need(typeSpelling.MatchString(name), api.BadField)
		s.k.signed = name[0] == 'i'
		s.k.bits, _ = strconv.Atoi(name[1:])
		need(s.k.bits <= 63 || s.k.signed && s.k.bits == 64, api.BadField)
		offset, sharp := strings.CutPrefix(m.next(), "#")
		place := exact(offset)
		if sharp {
			place.Mul(place, big.NewInt(int64(s.k.bits)))
		}
		need(place.Sign() >= 0 && place.Cmp(big.NewInt(int64(8*4096-s.k.bits))) <= 0, api.BadRange)
		s.at = int(place.Int64())
		if w != "GET" {
			s.n = exact(m.next())
		}
		all = append(all, s)
	}
	return all
}

func (m *model) fields() string {
	key := m.next()
	steps := m.steps()
	text, _ := m.text(key)
	// Bits are read from a text as long as can be; what is written back is as long as it must be.
	d := digits(pad(text, 4096))
	long, writes := len(text), false
	var l []string
	for _, s := range steps {
		end := s.at + s.k.bits
		was := s.k.read(d[s.at:end])
		if s.word == "GET" {
			l = append(l, was.String())
			continue
		}
		writes = true
		long = max(long, (end+7)/8)
		n := s.n
		if s.word == "INCRBY" {
			n = new(big.Int).Add(was, n)
		}
		laid := s.k.fit(n, s.overflow)
		switch {
		case laid == nil:
			l = append(l, "nil")
			continue
		case s.word == "SET":
			l = append(l, was.String())
		default:
			l = append(l, laid.String())
		}
		d = d[:s.at] + s.k.write(laid) + d[end:]
	}
	if writes {
		m.change(key, fromDigits(d)[:long])
	}
	return "[" + strings.Join(l, " ") + "]"
}
