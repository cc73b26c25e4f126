package desk_test

import (
	"cmp"
	"fmt"
	"slices"
	"strconv"
	"strings"

	"larder/api"
	"larder/board"
	"larder/match"
	"larder/space"
)

// modelConn is what a plain second desk knows of a connection.
type modelConn struct {
	db                int
	multi, bad        bool
	queue             []string
	watched           []api.Place
	disturbed, closed bool
	names, patterns   []string
	waits             *modelWait
	held              []string
}

// modelWait is a pop that waits: its command's words.
type modelWait struct {
	turn  int
	until uint64
	words []string
}

// model is a plain second desk. It asks of every Run what lies at all places ahead of it and behind it, and knows its commands as lines.
type model struct {
	space   *space.Space
	conns   [8]modelConn
	turns   []int
	turn    int
	outs    []string
	group   []string
	entries []string
	seq     int
	saved   bool
}

func newModel(quota int) *model {
	s, _ := space.New(quota, 99)
	return &model{space: s}
}

// state is all that lies at all places.
func (m *model) state() map[api.Place]string {
	all := map[api.Place]string{}
	for db := range 4 {
		for _, key := range m.space.Keys(db) {
			value, _ := m.space.Value(db, key)
			deadline, _ := m.space.Deadline(db, key)
			all[api.Place{DB: db, Key: string(key)}] = fmt.Sprintf("%d %q %q %q %v %d", value.Kind, value.Text, value.List, value.Pairs, value.Ranked, deadline)
		}
	}
	return all
}

// run does what is one Run of the space, and tells whether a place has changed by it.
func (m *model) run(f func()) bool {
	before := m.state()
	f()
	after := m.state()
	changed := false
	for _, some := range []map[api.Place]string{before, after} {
		for place := range some {
			if before[place] == after[place] {
				continue
			}
			changed = true
			for i := range m.conns {
				if slices.Contains(m.conns[i].watched, place) {
					m.conns[i].disturbed = true
				}
			}
		}
	}
	return changed
}

func (m *model) out(conn int, said string) {
	m.outs = append(m.outs, fmt.Sprintf("%d: %s", conn, said))
}

func (m *model) data(db int, line string) api.Reply {
	var reply api.Reply
	if m.run(func() { reply = board.Do(m.space, 0, db, words(line)) }) {
		m.group = append(m.group, fmt.Sprintf("%d %s", db, line))
	}
	return reply
}

func (m *model) logged() {
	if len(m.group) > 0 {
		m.seq++
		m.entries = append(m.entries, fmt.Sprintf("%d@%d %s", m.seq, m.space.Clock(), strings.Join(m.group, "; ")))
	}
	m.group = nil
}

func (m *model) told() string {
	outs := strings.Join(m.outs, ", ")
	m.outs = nil
	return outs
}

func (m *model) tick(now uint64) {
	m.run(func() { m.space.Run(now, nil) })
	var due []int
	for i, c := range m.conns {
		if c.waits != nil && c.waits.until > 0 && c.waits.until <= m.space.Clock() {
			due = append(due, i)
		}
	}
	slices.SortFunc(due, func(a, b int) int {
		x, y := m.conns[a].waits, m.conns[b].waits
		return cmp.Or(cmp.Compare(x.until, y.until), cmp.Compare(x.turn, y.turn))
	})
	for _, i := range due {
		m.out(i, nothingFor(m.conns[i].waits.words))
		m.free(i)
	}
	m.settle()
}

func nothingFor(w []string) string {
	if w[0] == "BLMOVE" {
		return "nil"
	}
	return "nil array"
}

func (m *model) free(i int) {
	m.conns[i].waits = nil
	m.turns = append(m.turns, i)
}

// kindAt tells the kind of the value of a key.
func (m *model) kindAt(db int, key string) int {
	v, _ := m.space.Value(db, []byte(key))
	return v.Kind
}

// popKeys tells the keys from which a pop pops, and the kind that it wants.
func popKeys(w []string) ([]string, int) {
	switch w[0] {
	case "BLMOVE":
		return w[1:2], api.ValList
	case "BLPOP", "BRPOP":
		return w[1 : len(w)-1], api.ValList
	}
	return w[1 : len(w)-1], api.ValRank
}

// popped pops from the first key that has something.
func (m *model) popped(db int, w []string) (string, bool) {
	keys, kind := popKeys(w)
	for _, key := range keys {
		if m.kindAt(db, key) != kind {
			continue
		}
		switch w[0] {
		case "BLMOVE":
			return said(m.data(db, strings.Join(append([]string{"LMOVE"}, w[1:5]...), " "))), true
		case "BLPOP", "BRPOP":
			return fmt.Sprintf("[%q %s]", key, said(m.data(db, w[0][1:]+" "+key))), true
		}
		pair := said(m.data(db, w[0][1:]+" "+key))
		return fmt.Sprintf("[%q %s", key, strings.TrimPrefix(pair, "[")), true
	}
	return "", false
}

func (m *model) settle() {
	for {
		if m.serveOne() {
			continue
		}
		// A turn is over if its connection waits again or has nothing left.
		for len(m.turns) > 0 && (m.conns[m.turns[0]].waits != nil || len(m.conns[m.turns[0]].held) == 0) {
			m.turns = m.turns[1:]
		}
		if len(m.turns) == 0 {
			return
		}
		i := m.turns[0]
		line := m.conns[i].held[0]
		m.conns[i].held = m.conns[i].held[1:]
		m.take(i, line)
	}
}

func (m *model) serveOne() bool {
	first := -1
	for i, c := range m.conns {
		if c.waits == nil || first >= 0 && m.conns[first].waits.turn < c.waits.turn {
			continue
		}
		keys, kind := popKeys(c.waits.words)
		if slices.ContainsFunc(keys, func(key string) bool { return m.kindAt(c.db, key) == kind }) {
			first = i
		}
	}
	if first < 0 {
		return false
	}
	w := m.conns[first].waits.words
	m.free(first)
	reply, _ := m.popped(m.conns[first].db, w)
	m.out(first, reply)
	m.logged()
	return true
}

// broken is the line that stands for the end of a broken stream.
const broken = "\x00"

func (m *model) bring(conn int, now uint64, line string) string {
	if conn < 0 || conn > 7 {
		return ""
	}
	m.tick(now)
	switch c := &m.conns[conn]; {
	case c.closed:
	case c.waits != nil:
		c.held = append(c.held, line)
	default:
		m.take(conn, line)
		m.settle()
	}
	return m.told()
}

func (m *model) take(i int, line string) {
	if line == broken {
		m.out(i, "ERR Protocol error")
		m.conns[i] = modelConn{closed: true}
		return
	}
	if reply := m.command(i, line); reply != "" {
		m.out(i, reply)
	}
	m.logged()
}

// arity tells the least and greatest number of arguments of one of the desk's own commands.
func arity(name string) (int, int, bool) {
	for _, c := range own {
		if c.name == name {
			return c.least, cmp.Or(c.most, 128), true
		}
	}
	return 0, 0, false
}

// command is carried out by the rules of P19.6.
func (m *model) command(i int, line string) string {
	c := &m.conns[i]
	w := strings.Fields(line)
	if len(w) == 0 || len(w) > 128 {
		c.bad = true
		return "ERR too many"
	}
	name := strings.ToUpper(w[0])
	least, most, ours := arity(name)
	e := board.Check(words(line))
	switch {
	case !ours && e == api.ErrBoardName:
		c.bad = true
		return "ERR unknown command"
	case ours && (len(w) < least || len(w) > most), !ours && e == api.ErrBoardArity:
		c.bad = true
		return "ERR wrong number of arguments"
	}
	among := func(names string) bool { return slices.Contains(strings.Fields(names), name) }
	if len(c.names)+len(c.patterns) > 0 && !among("SUBSCRIBE UNSUBSCRIBE PSUBSCRIBE PUNSUBSCRIBE PING QUIT RESET") {
		return "ERR not now"
	}
	if c.multi && !among("MULTI EXEC DISCARD WATCH QUIT RESET") {
		if among("SUBSCRIBE UNSUBSCRIBE PSUBSCRIBE PUNSUBSCRIBE SAVE") {
			c.bad = true
			return "ERR not now"
		}
		if len(c.queue) == 64 {
			c.bad = true
			return "ERR too many"
		}
		c.queue = append(c.queue, line)
		return "+QUEUED"
	}
	return m.carry(i, line, false)
}

func (m *model) carry(i int, line string, inExec bool) string {
	c := &m.conns[i]
	w := strings.Fields(line)
	w[0] = strings.ToUpper(w[0])
	if _, _, ours := arity(w[0]); !ours {
		return said(m.data(c.db, line))
	}
	switch w[0] {
	case "BLPOP", "BRPOP", "BLMOVE", "BZPOPMIN", "BZPOPMAX":
		return m.waitingPop(i, w, inExec)
	case "SUBSCRIBE", "UNSUBSCRIBE", "PSUBSCRIBE", "PUNSUBSCRIBE", "PUBLISH", "PUBSUB":
		return m.messages(i, w)
	case "MULTI", "EXEC", "DISCARD", "WATCH", "UNWATCH":
		return m.transaction(i, w)
	}
	switch w[0] {
	case "PING":
		if len(w) == 1 {
			return "+PONG"
		}
		return fmt.Sprintf("%q", w[1])
	case "ECHO":
		return fmt.Sprintf("%q", w[1])
	case "SELECT":
		n, err := strconv.Atoi(w[1])
		if err != nil {
			return "ERR not an integer"
		}
		if n < 0 || n > 3 {
			return "ERR no such database"
		}
		c.db = n
	case "QUIT":
		*c = modelConn{closed: true}
	case "RESET":
		*c = modelConn{held: c.held}
		return "+RESET"
	case "SAVE":
		m.saved = true
	}
	return "+OK"
}

func (m *model) transaction(i int, w []string) string {
	c := &m.conns[i]
	switch w[0] {
	case "MULTI":
		if c.multi {
			return "ERR MULTI inside MULTI"
		}
		c.multi, c.bad, c.queue = true, false, nil
		return "+OK"
	case "WATCH":
		if c.multi {
			return "ERR WATCH inside MULTI"
		}
		places := slices.Clone(c.watched)
		for _, key := range w[1:] {
			if place := (api.Place{DB: c.db, Key: key}); !slices.Contains(places, place) {
				places = append(places, place)
			}
		}
		if len(places) > 64 {
			return "ERR too many"
		}
		c.watched = places
		return "+OK"
	case "UNWATCH":
		c.watched, c.disturbed = nil, false
		return "+OK"
	}
	if !c.multi {
		return "ERR " + w[0] + " without MULTI"
	}
	was := *c
	c.multi, c.queue, c.watched, c.disturbed = false, nil, nil, false
	switch {
	case w[0] == "DISCARD":
		return "+OK"
	case was.bad:
		return "EXECABORT"
	case was.disturbed:
		return "nil array"
	}
	var replies []string
	for _, line := range was.queue {
		replies = append(replies, m.carry(i, line, true))
	}
	return "[" + strings.Join(replies, " ") + "]"
}

func (m *model) waitingPop(i int, w []string, inExec bool) string {
	c := &m.conns[i]
	keys, kind := popKeys(w)
	if len(keys) > 64 {
		return "ERR too many"
	}
	looked := keys
	if w[0] == "BLMOVE" {
		looked = w[1:3]
		for _, side := range w[3:5] {
			if side = strings.ToUpper(side); side != "LEFT" && side != "RIGHT" {
				return "ERR syntax"
			}
		}
	}
	ms, err := strconv.Atoi(w[len(w)-1])
	if err != nil {
		return "ERR not an integer"
	}
	if ms < 0 || ms > 1<<52-int(m.space.Clock()) {
		return "ERR bad time"
	}
	for _, key := range looked {
		if k := m.kindAt(c.db, key); k != api.ValNone && k != kind {
			return "WRONGTYPE another kind of value"
		}
	}
	if reply, there := m.popped(c.db, w); there {
		return reply
	}
	if inExec {
		return nothingFor(w)
	}
	m.turn++
	c.waits = &modelWait{turn: m.turn, words: w}
	if ms > 0 {
		c.waits.until = m.space.Clock() + uint64(ms)
	}
	return ""
}

func (m *model) messages(i int, w []string) string {
	c := &m.conns[i]
	switch w[0] {
	case "PUBLISH":
		return m.publish(w[1], w[2])
	case "PUBSUB":
		return m.pubsub(w)
	}
	some := &c.names
	if w[0][0] == 'P' {
		some = &c.patterns
	}
	count := func(name string) {
		m.out(i, fmt.Sprintf("[%q %s :%d]", strings.ToLower(w[0]), name, len(c.names)+len(c.patterns)))
	}
	if !strings.Contains(w[0], "UN") {
		after := slices.Clone(*some)
		for _, name := range w[1:] {
			if !slices.Contains(after, name) {
				after = append(after, name)
			}
		}
		if len(c.names)+len(c.patterns)+len(after)-len(*some) > 64 {
			return "ERR too many"
		}
		for _, name := range w[1:] {
			if !slices.Contains(*some, name) {
				*some = append(*some, name)
			}
			count(strconv.Quote(name))
		}
		return ""
	}
	leaving := w[1:]
	if len(leaving) == 0 {
		leaving = slices.Sorted(slices.Values(*some))
	}
	if len(leaving) == 0 {
		count("nil")
	}
	for _, name := range leaving {
		*some = slices.DeleteFunc(*some, func(other string) bool { return other == name })
		count(strconv.Quote(name))
	}
	return ""
}

func (m *model) publish(channel, message string) string {
	n := 0
	for i, c := range m.conns {
		if slices.Contains(c.names, channel) {
			m.out(i, fmt.Sprintf("[\"message\" %q %q]", channel, message))
			n++
		}
		for _, pattern := range slices.Sorted(slices.Values(c.patterns)) {
			if match.Glob([]byte(pattern), []byte(channel)) {
				m.out(i, fmt.Sprintf("[\"pmessage\" %q %q %q]", pattern, channel, message))
				n++
			}
		}
	}
	return fmt.Sprint(":", n)
}

func (m *model) pubsub(w []string) string {
	var names, patterns []string
	for _, c := range m.conns {
		names = append(names, c.names...)
		patterns = append(patterns, c.patterns...)
	}
	var parts []string
	switch strings.ToUpper(w[1]) {
	case "NUMPAT":
		if len(w) > 2 {
			return "ERR wrong number of arguments"
		}
		slices.Sort(patterns)
		return fmt.Sprint(":", len(slices.Compact(patterns)))
	case "NUMSUB":
		for _, name := range w[2:] {
			n := len(slices.DeleteFunc(slices.Clone(names), func(other string) bool { return other != name }))
			parts = append(parts, fmt.Sprintf("%q :%d", name, n))
		}
	case "CHANNELS":
		if len(w) > 3 {
			return "ERR wrong number of arguments"
		}
		slices.Sort(names)
		for _, name := range slices.Compact(names) {
			if len(w) == 2 || match.Glob([]byte(w[2]), []byte(name)) {
				parts = append(parts, strconv.Quote(name))
			}
		}
	default:
		return "ERR syntax"
	}
	return "[" + strings.Join(parts, " ") + "]"
}

// act does to the model what the line of a script says.
func (m *model) act(line string) string {
	what, rest, _ := strings.Cut(line, " ")
	var conn int
	var now uint64
	switch what {
	case "tick":
		fmt.Sscan(rest, &now)
		m.tick(now)
		return m.told()
	case "break":
		fmt.Sscanf(rest, "%d@%d", &conn, &now)
		return m.bring(conn, now, broken)
	case "leave":
		if fmt.Sscan(rest, &conn); conn >= 0 && conn < 8 {
			m.conns[conn] = modelConn{}
		}
		return ""
	case "entries":
		entries := strings.Join(m.entries, ", ")
		m.entries = nil
		return entries
	case "saved":
		saved := m.saved
		m.saved = false
		return fmt.Sprint(saved, " ", m.seq)
	}
	fmt.Sscanf(what, "%d@%d", &conn, &now)
	return m.bring(conn, now, rest)
}
