package rows_test

import (
	"fmt"
	"maps"
	"math/rand"
	"slices"
	"strings"
	"testing"

	"larder/api"
	"larder/rows"
	"larder/space"
)

// player draws commands.
type player struct{ r *rand.Rand }

func (p player) pick(l ...string) string { return l[p.r.Intn(len(l))] }

func (p player) key() string {
	return p.pick("a", "b", "c", "", "ab", "other", strings.Repeat("k", 300))
}

// element is one of a few, so that there are equal ones, or now and then a longer one.
func (p player) element() string {
	switch p.r.Intn(20) {
	case 0:
		return strings.Repeat(p.pick("x", "y"), p.r.Intn(700))
	case 1:
		return strings.Repeat("x", 4090+p.r.Intn(7))
	case 2:
		b := make([]byte, p.r.Intn(12))
		p.r.Read(b)
		return string(b)
	}
	return p.pick("x", "y", "z", "", "xx", "left")
}

func (p player) elements(least int) []string {
	var l []string
	for range least + p.r.Intn(4) {
		l = append(l, p.element())
	}
	return l
}

func (p player) number() string {
	switch p.r.Intn(12) {
	case 0:
		return p.pick("9223372036854775807", "-9223372036854775808", "9223372036854775806", "-9223372036854775807", "4294967296", "2147483648")
	case 1:
		return fmt.Sprint(int64(p.r.Uint64()))
	case 2:
		return fmt.Sprint(p.r.Intn(60) - 30)
	}
	return fmt.Sprint(p.r.Intn(14) - 6)
}

// count is a number that is mostly one that may be.
func (p player) count() string {
	if p.r.Intn(6) == 0 {
		return p.number()
	}
	return fmt.Sprint(p.r.Intn(6))
}

// word is one of these, its letters small or capital.
func (p player) word(l ...string) string {
	w := p.pick(l...)
	if p.r.Intn(3) == 0 {
		w = strings.ToLower(w)
	}
	return w
}

// perhaps is the arguments, or none.
func (p player) perhaps(l ...string) []string {
	if p.r.Intn(2) == 0 {
		return nil
	}
	return l
}

func (p player) side() string { return p.word("LEFT", "RIGHT") }

func (p player) options() []string {
	groups := [][]string{p.perhaps(p.word("RANK"), p.number()), p.perhaps(p.word("COUNT"), p.count()), p.perhaps(p.word("MAXLEN"), p.count())}
	p.r.Shuffle(len(groups), func(i, j int) { groups[i], groups[j] = groups[j], groups[i] })
	return slices.Concat(groups...)
}

// command is one that is right as often as not.
func (p player) command() []string {
	name := p.pick("LINDEX", "LINSERT", "LLEN", "LMOVE", "LMOVE", "LMPOP", "LMPOP", "LPOP", "LPOS", "LPOS", "LPUSH", "LPUSH", "LPUSHX", "LRANGE", "LREM", "LSET", "LTRIM", "RPOP", "RPOPLPUSH", "RPUSH", "RPUSH", "RPUSH", "RPUSHX")
	return append([]string{p.word(name)}, p.behind(name)...)
}

// behind is what stands behind a command's name.
func (p player) behind(name string) []string {
	if name == "LMPOP" {
		keys := []string{p.key(), p.key(), p.key(), p.key()}[:1+p.r.Intn(4)]
		return slices.Concat([]string{fmt.Sprint(len(keys))}, keys, []string{p.side()}, p.perhaps(p.word("COUNT"), p.count()))
	}
	l := []string{p.key()}
	switch name {
	case "LPUSH", "RPUSH", "LPUSHX", "RPUSHX":
		return append(l, p.elements(1)...)
	case "LPOP", "RPOP":
		return append(l, p.perhaps(p.count())...)
	case "LRANGE":
		return append(l, p.number(), p.number())
	case "LTRIM":
		return append(l, p.pick("0", "0", "1", p.number()), p.pick("-1", "-1", "-2", p.number()))
	case "LINDEX":
		return append(l, p.number())
	case "LSET", "LREM":
		return append(l, p.number(), p.element())
	case "LINSERT":
		return append(l, p.word("BEFORE", "AFTER"), p.element(), p.element())
	case "LMOVE":
		return append(l, p.pick(p.key(), l[0]), p.side(), p.side())
	case "RPOPLPUSH":
		return append(l, p.pick(p.key(), l[0]))
	case "LPOS":
		return append(append(l, p.element()), p.options()...)
	}
	return l
}

// bend makes something of a command wrong, now and then.
func (p player) bend(command []string) []string {
	i := p.r.Intn(len(command))
	switch p.r.Intn(20) {
	case 0:
		return slices.Delete(command, i, i+1)
	case 1:
		return slices.Insert(command, i, p.pick("x", "LEFT", "COUNT", "0", "1", "", "RANK"))
	case 2:
		command[i] = p.pick("", "x", "01", "-0", "+1", "9223372036854775808", "-1", "0", "UP", "1.5", " 1", "COUNT")
	case 3:
		if p.r.Intn(6) == 0 {
			command[i] = wide(4097)
		}
	}
	return command
}

// stir does what nobody may see: it moves objects about, and lays draws.
func stir(r *rand.Rand, s *space.Space) {
	switch r.Intn(6) {
	case 0:
		s.Heap().Collect()
	case 1:
		s.Heap().Resize(64 << r.Intn(8))
	case 2:
		s.Draw([]byte{byte(r.Intn(256))})
	}
}

// changedOf tells the places at which two states differ.
func changedOf(before, behind map[api.Place]cell) []api.Place {
	m := &model{cells: maps.Clone(before)}
	maps.Copy(m.cells, behind)
	return slices.DeleteFunc(m.places(), func(p api.Place) bool {
		was, there := before[p]
		is, stays := behind[p]
		return there == stays && was.equal(is)
	})
}

// lay lays a text, or a deadline on a list, down in the space and in the model, now and then; no command of this package does.
func lay(t *testing.T, r *rand.Rand, s *space.Space, m *model) {
	t.Helper()
	switch r.Intn(20) {
	case 0:
		cells := maps.Clone(m.cells)
		cells[at(0, "other")] = cell{list: []string{"x"}, other: true}
		if (&model{cells: cells}).cost() <= m.quota {
			store(t, s, "other", others()[0], 0)
			m.cells = cells
		}
	case 1, 2:
		if places := m.places(); len(places) > 0 {
			p := places[r.Intn(len(places))]
			c := m.cells[p]
			c.deadline = m.clock + 1 + uint64(r.Intn(30))
			if c.deadline > api.MaxTime {
				return
			}
			m.cells[p] = c
			s.Run(0, func() api.Reply {
				s.SetDeadline(p.DB, []byte(p.Key), c.deadline)
				return api.Reply{}
			})
		}
	}
}

// TestP12_2_to_6_DrawnScripts: every reply, and all that is kept behind it, against the model; on spaces of any seed, with collections and resizes between the commands.
func TestP12_2_to_6_DrawnScripts(t *testing.T) {
	for script := range int64(150) {
		r := rand.New(rand.NewSource(script))
		quota := []int{256, 400, 1500, 16384}[r.Intn(4)]
		s, e := space.New(quota, r.Uint64())
		if e != api.OK {
			t.Fatalf("New: %d", e)
		}
		p, m := player{r}, &model{cells: map[api.Place]cell{}, quota: quota}
		roots := s.Heap().Stats().Roots
		for range 200 {
			lay(t, r, s, m)
			now := m.clock + uint64(r.Intn(8)) - min(m.clock, 2)
			if r.Intn(600) == 0 {
				now = r.Uint64()
			}
			db, command := r.Intn(2)*r.Intn(4), p.bend(p.command())
			if r.Intn(100) == 0 {
				db = r.Intn(9) - 4
			}
			before := maps.Clone(m.cells)
			want := m.do(now, db, slices.Clone(command))
			got := told(rows.Do(s, now, db, args(command...)))
			line := brief(strings.Join(command, " "))
			if got != want {
				t.Errorf("%s: %s, want %s", line, brief(got), brief(want))
			}
			if picture(s) != m.picture() || s.Cost() != m.cost() || s.Clock() != m.clock {
				t.Errorf("%s: there is\n%s\nand should be\n%s", line, picture(s), m.picture())
			}
			if want := changedOf(before, m.cells); !slices.Equal(s.Changed(), want) {
				t.Errorf("%s has changed %v, want %v", line, s.Changed(), want)
			}
			if n := s.Heap().Stats().Roots; n != roots {
				t.Errorf("%d handles, want %d", n, roots)
			}
			stir(r, s)
			if t.Failed() {
				t.Fatalf("in script %d", script)
			}
		}
		wantRoom(t, s)
	}
}
