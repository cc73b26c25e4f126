package board_test

import (
	"fmt"
	"maps"
	"math/rand"
	"slices"
	"strings"
	"testing"

	"larder/api"
	"larder/board"
	"larder/space"
)

// player draws commands and values.
type player struct {
	r    *rand.Rand
	keys []string // that are there, in the database of the command
}

func (p player) pick(l ...string) string { return l[p.r.Intn(len(l))] }

// look is the player that knows the keys of a database.
func (p player) look(m *model, db int) player {
	p.keys = nil
	for _, place := range m.places() {
		if place.DB == db {
			p.keys = append(p.keys, place.Key)
		}
	}
	return p
}

// key is one of a few, more often than not one that is there.
func (p player) key() string {
	if len(p.keys) > 0 && p.r.Intn(3) > 0 {
		return p.pick(p.keys...)
	}
	switch p.r.Intn(30) {
	case 0:
		return ""
	case 1:
		return strings.Repeat("k", p.r.Intn(1200))
	case 2:
		return "none"
	}
	return p.pick("k", "l", "m", "n", "w_1", "w_2", "h_1", "h_2", "h_x", "x", "1", "to", "to")
}

// database is mostly the first.
func (p player) database() int { return max(0, p.r.Intn(12)-8) }

// element is one of a few, a number more often than not.
func (p player) element() string {
	switch n := p.r.Intn(60); {
	case n == 0:
		return strings.Repeat(p.pick("x", "y"), p.r.Intn(700))
	case n == 1:
		return strings.Repeat("x", 4090+p.r.Intn(7))
	case n == 2:
		b := make([]byte, p.r.Intn(12))
		p.r.Read(b)
		return string(b)
	case n < 6:
		return p.pick("x", "y", "", "xx", "#", "f")
	case n < 9:
		return p.pick(greatest, least, "10", "-10", "100")
	}
	return fmt.Sprint(p.r.Intn(12) - 3)
}

func (p player) elements() []string {
	var l []string
	for range 1 + p.r.Intn(7) {
		l = append(l, p.element())
	}
	return l
}

// value is one of any kind.
func (p player) value() api.Value {
	v := api.Value{Kind: 1 + p.r.Intn(5)}
	names := p.elements()
	unique := slices.Compact(sorted(names))
	switch v.Kind {
	case api.ValText:
		v.Text = []byte(names[0])
	case api.ValList:
		v.List = args(names...)
	case api.ValSet:
		v.List = args(unique...)
	case api.ValHash:
		for _, name := range slices.Compact(sorted(append(unique, p.pick("f", "g")))) {
			v.Pairs = append(v.Pairs, api.Pair{Field: []byte(name), Value: []byte(p.element())})
		}
	case api.ValRank:
		for i, name := range unique {
			v.Ranked = append(v.Ranked, api.Scored{Member: []byte(name), Score: int64(i / 2)})
		}
	}
	return v
}

// number is a number that is now and then far out.
func (p player) number() string {
	switch p.r.Intn(12) {
	case 0:
		return p.pick(greatest, least, "4503599627370496", "4503599627370", "4503599627371", "-4503599627370496", "4294967296")
	case 1:
		return fmt.Sprint(int64(p.r.Uint64()))
	}
	return fmt.Sprint(p.r.Intn(14) - 4)
}

// time is a number that means a deadline not far from the clock, or is any.
func (p player) time(name string) string {
	switch {
	case p.r.Intn(3) == 0:
		return p.number()
	case strings.HasPrefix(name, "P"):
		return fmt.Sprint(p.r.Intn(700) - 50)
	}
	return fmt.Sprint(p.r.Intn(4))
}

// word is one of these, its letters small or capital.
func (p player) word(l ...string) string {
	w := p.pick(l...)
	if p.r.Intn(3) == 0 {
		w = strings.ToLower(w)
	}
	return w
}

// perhaps is the arguments, or none.
func (p player) perhaps(l ...string) []string {
	if p.r.Intn(2) == 0 {
		return nil
	}
	return l
}

// seldom is the arguments, or mostly none.
func (p player) seldom(l ...string) []string {
	if p.r.Intn(5) > 0 {
		return nil
	}
	return l
}

// shuffled is options in any order.
func (p player) shuffled(groups ...[]string) []string {
	p.r.Shuffle(len(groups), func(i, j int) { groups[i], groups[j] = groups[j], groups[i] })
	return slices.Concat(groups...)
}

func (p player) cursor() string {
	if p.r.Intn(2) == 0 {
		return fmt.Sprint(p.r.Uint64())
	}
	return p.pick("0", "0", "1", "18446744073709551615")
}

func (p player) someKeys() []string {
	var l []string
	for range 1 + p.r.Intn(4) {
		l = append(l, p.key())
	}
	return l
}

// command is one that is right more often than not.
func (p player) command() []string {
	names := strings.Fields(strings.Repeat("SORT ", 14) + "EXPIRE PEXPIRE PEXPIREAT COPY COPY RENAME SCAN SWAPDB")
	for _, c := range chapterRows() {
		names = append(names, c.Name)
	}
	name := p.pick(names...)
	// What takes all away is seldom wanted.
	if strings.HasPrefix(name, "FLUSH") && p.r.Intn(4) > 0 {
		name = "SORT"
	}
	return append([]string{p.word(name)}, p.behind(name)...)
}

// behind is what stands behind a command's name.
func (p player) behind(name string) []string {
	switch name {
	case "DBSIZE", "FLUSHDB", "FLUSHALL", "TIME":
		return nil
	case "DEL", "EXISTS", "TOUCH":
		return p.someKeys()
	case "EXPIRE", "PEXPIRE", "EXPIREAT", "PEXPIREAT":
		return slices.Concat([]string{p.key(), p.time(name)}, p.shuffled(p.perhaps(p.word("NX", "XX", "XX")), p.perhaps(p.word("GT", "LT"))))
	case "RENAME", "RENAMENX":
		return []string{p.key(), p.key()}
	case "COPY":
		return slices.Concat([]string{p.key(), p.key()}, p.shuffled(p.perhaps(p.word("DB"), fmt.Sprint(p.r.Intn(4))), p.perhaps(p.word("REPLACE"))))
	case "MOVE":
		return []string{p.key(), fmt.Sprint(p.r.Intn(4))}
	case "SWAPDB":
		return []string{fmt.Sprint(p.r.Intn(4)), fmt.Sprint(p.r.Intn(4))}
	case "KEYS":
		return []string{p.pattern()}
	case "SCAN":
		return slices.Concat([]string{p.cursor()}, p.shuffled(p.perhaps(p.word("MATCH"), p.pattern()), p.perhaps(p.word("COUNT"), fmt.Sprint(1+p.r.Intn(5))), p.perhaps(p.word("TYPE"), p.word("STRING", "LIST", "HASH", "SET", "ZSET"))))
	case "SORT":
		return p.sort()
	case "MEMORY":
		return [][]string{{p.word("USAGE"), p.key()}, {p.word("USED")}, {p.word("QUOTA")}}[p.r.Intn(3)]
	case "COMMAND":
		return p.getKeys()
	}
	return []string{p.key()}
}

func (p player) pattern() string {
	return p.pick("*", "?", "[k-n]", "w_*", "*_*", "", "none", "h_[^1]", "[")
}

func (p player) sort() []string {
	by := p.pick("w_*", "h_*->f", "h_*->g", "*", "none*", "no", "*->f", "h_*")
	groups := [][]string{p.perhaps(p.word("BY"), by), p.seldom(p.word("LIMIT"), p.number(), p.number()), p.perhaps(p.word("ASC", "DESC", "DESC")), p.perhaps(p.word("ALPHA")), p.seldom(p.word("STORE"), p.pick(p.key(), "to"))}
	for range p.r.Intn(4) {
		groups = append(groups, []string{p.word("GET"), p.pick("#", "#", "w_*", "h_*->f", "no", "*", "h_*", "*->1")})
	}
	if p.r.Intn(20) == 0 {
		groups = append(groups, slices.Repeat([]string{"GET", "#"}, 50))
	}
	return append([]string{p.key()}, p.shuffled(groups...)...)
}

// getKeys is a question for a command's keys; the command itself may be any.
func (p player) getKeys() []string {
	if p.r.Intn(6) == 0 {
		return []string{p.word("COUNT")}
	}
	all := wholeTable()
	c := all[p.r.Intn(len(all))]
	l := []string{p.word("GETKEYS"), p.word(c.Name)}
	for range max(c.Arity, -c.Arity+p.r.Intn(3)) - 1 {
		l = append(l, p.pick("a", "b", "1", "2", "3", "x"))
	}
	return l
}

// bend makes something of a command wrong, now and then.
func (p player) bend(command []string) []string {
	i := p.r.Intn(len(command))
	switch p.r.Intn(20) {
	case 0:
		return slices.Delete(command, i, i+1)
	case 1:
		return slices.Insert(command, i+1, p.pick("x", "NX", "DB", "0", "1", "", "LIMIT", "BY", "ALPHA", "STORE", "COUNT", "TYPE", "GET", "REPLACE", "GT"))
	case 2:
		command[i] = p.pick("", "x", "01", "-0", "+1", "9223372036854775808", "-1", "0", "4", "LIMIT", "1.5", " 1", "NOSUCH", "none")
	case 3:
		if p.r.Intn(6) == 0 {
			command[i] = wide(4097)
		}
	}
	return command
}

// stir does what nobody may see: it moves objects about, and lays draws.
func stir(r *rand.Rand, s *space.Space) {
	switch r.Intn(6) {
	case 0:
		s.Heap().Collect()
	case 1:
		s.Heap().Resize(64 << r.Intn(8))
	case 2, 3:
		s.Draw([]byte{byte(r.Intn(256)), byte(r.Intn(256)), 255})
	}
}

// changedOf tells the places at which two states differ.
func changedOf(before, behind map[api.Place]cell) []api.Place {
	m := &model{cells: maps.Clone(before)}
	maps.Copy(m.cells, behind)
	return slices.DeleteFunc(m.places(), func(p api.Place) bool {
		was, there := before[p]
		is, stays := behind[p]
		return there == stays && was.equal(is)
	})
}

// lay lays a value down in the space and in the model, now and then, if there is room for it.
func lay(t *testing.T, p player, s *space.Space, m *model) {
	t.Helper()
	if p.r.Intn(2) > 0 {
		return
	}
	place := at(p.database(), p.key())
	c := cell{value: p.value()}
	if p.r.Intn(3) == 0 {
		c.deadline = min(m.clock+1+uint64(p.r.Intn(300)), api.MaxTime)
	}
	if c.deadline <= m.clock {
		c.deadline = 0
	}
	cells := maps.Clone(m.cells)
	cells[place] = c
	if (&model{cells: cells}).cost() > m.quota {
		return
	}
	storeIn(t, s, place.DB, place.Key, c.value, c.deadline)
	m.cells = cells
}

// TestP15_5_to_9_DrawnScripts: every reply, and all that is kept behind it, against the model; on spaces of any seed, with draws, collections and resizes between the commands.
func TestP15_5_to_9_DrawnScripts(t *testing.T) {
	for script := range int64(150) {
		r := rand.New(rand.NewSource(script))
		quota := []int{256, 700, 3000, 16384, 16384}[r.Intn(5)]
		s, e := space.New(quota, r.Uint64())
		if e != api.OK {
			t.Fatalf("New: %d", e)
		}
		p, m := player{r: r}, &model{cells: map[api.Place]cell{}, quota: quota, seed: s.Seed()}
		roots := s.Heap().Stats().Roots
		for range 200 {
			lay(t, p, s, m)
			now := m.clock + uint64(r.Intn(8)) - min(m.clock, 2)
			if r.Intn(600) == 0 {
				now = r.Uint64()
			}
			db := p.database()
			here := p.look(m, db)
			command := here.bend(here.command())
			if r.Intn(100) == 0 {
				db = r.Intn(9) - 4
			}
			before := maps.Clone(m.cells)
			want := m.do(now, db, slices.Clone(command))
			got := told(board.Do(s, now, db, args(command...)))
			line := brief(strings.Join(command, " "))
			if got != want {
				t.Errorf("%s: %s, want %s", line, brief(got), brief(want))
			}
			if picture(s) != m.picture() || s.Cost() != m.cost() || s.Clock() != m.clock {
				t.Errorf("%s: there is\n%s\nand should be\n%s", line, brief(picture(s)), brief(m.picture()))
			}
			if want := changedOf(before, m.cells); !slices.Equal(s.Changed(), want) {
				t.Errorf("%s has changed %v, want %v", line, s.Changed(), want)
			}
			if n := s.Heap().Stats().Roots; n != roots {
				t.Errorf("%d handles, want %d", n, roots)
			}
			stir(r, s)
			if t.Failed() {
				t.Fatalf("in script %d", script)
			}
		}
		wantRoom(t, s)
	}
}
