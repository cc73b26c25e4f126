package nest_test

import (
	"fmt"
	"maps"
	"math/rand"
	"slices"
	"strings"
	"testing"

	"larder/api"
	"larder/nest"
	"larder/space"
)

// player draws commands.
type player struct{ r *rand.Rand }

func (p player) pick(l ...string) string { return l[p.r.Intn(len(l))] }

// key is mostly one that is a hash for commands on hashes, and a set for those on sets.
func (p player) key(name string) string {
	if p.r.Intn(8) == 0 {
		return p.pick("", "other", "h1", "s1", strings.Repeat("k", 300))
	}
	if name[0] == 'H' {
		return p.pick("h1", "h2", "h3")
	}
	return p.pick("s1", "s2", "s3", "s4")
}

func (p player) keys(name string, least int) []string {
	var l []string
	for range least + p.r.Intn(4) {
		l = append(l, p.key(name))
	}
	return l
}

// element is one of a few, so that there are equal ones, or now and then a longer one.
func (p player) element() string {
	switch p.r.Intn(30) {
	case 0:
		return strings.Repeat(p.pick("x", "y"), p.r.Intn(700))
	case 1:
		return strings.Repeat("x", 4090+p.r.Intn(7))
	case 2:
		b := make([]byte, p.r.Intn(12))
		p.r.Read(b)
		return string(b)
	case 3, 4, 5, 6, 7, 8, 9, 10:
		return fmt.Sprint("e", p.r.Intn(40))
	}
	return p.pick("x", "y", "z", "", "xx", "count")
}

func (p player) elements(least int) []string {
	var l []string
	most := 4
	if p.r.Intn(10) == 0 {
		most = 25
	}
	for range least + p.r.Intn(most) {
		l = append(l, p.element())
	}
	return l
}

func (p player) number() string {
	switch p.r.Intn(12) {
	case 0, 1:
		return p.pick("9223372036854775807", "-9223372036854775808", "9223372036854775806", "-9223372036854775807", "4294967296", "2147483648")
	case 2:
		return fmt.Sprint(int64(p.r.Uint64()))
	}
	return fmt.Sprint(p.r.Intn(24) - 12)
}

// value is often a number.
func (p player) value() string {
	if p.r.Intn(2) == 0 {
		return p.number()
	}
	return p.element()
}

// count is a number that is mostly one that may be.
func (p player) count() string {
	if p.r.Intn(6) == 0 {
		return p.number()
	}
	return fmt.Sprint(p.r.Intn(9))
}

// word is one of these, its letters small or capital.
func (p player) word(l ...string) string {
	w := p.pick(l...)
	if p.r.Intn(3) == 0 {
		w = strings.ToLower(w)
	}
	return w
}

// perhaps is the arguments, or none.
func (p player) perhaps(l ...string) []string {
	if p.r.Intn(2) == 0 {
		return nil
	}
	return l
}

func (p player) options() []string {
	groups := [][]string{p.perhaps(p.word("MATCH"), p.pick("*", "x*", "?", "e[0-4]", "*1*", "", "xx", "[")), p.perhaps(p.word("COUNT"), p.count())}
	p.r.Shuffle(len(groups), func(i, j int) { groups[i], groups[j] = groups[j], groups[i] })
	return slices.Concat(groups...)
}

func (p player) cursor() string {
	if p.r.Intn(2) == 0 {
		return fmt.Sprint(p.r.Uint64())
	}
	return p.pick("0", "0", "1", "18446744073709551615", "9223372036854775808")
}

// command is one that is right as often as not.
func (p player) command() []string {
	names := strings.Fields("HSET HSET HSET SADD SADD SADD SMOVE SPOP HINCRBY HSCAN SSCAN SINTERCARD SDIFFSTORE SUNIONSTORE SINTERSTORE")
	for _, c := range nest.Commands() {
		names = append(names, c.Name)
	}
	name := p.pick(names...)
	return append([]string{p.word(name)}, p.behind(name)...)
}

// behind is what stands behind a command's name.
func (p player) behind(name string) []string {
	switch name {
	case "SINTERCARD":
		keys := p.keys(name, 1)
		return slices.Concat([]string{fmt.Sprint(len(keys))}, keys, p.perhaps(p.word("LIMIT"), p.count()))
	case "SUNION", "SINTER", "SDIFF":
		return p.keys(name, 1)
	case "SUNIONSTORE", "SINTERSTORE", "SDIFFSTORE":
		return append([]string{p.pick(p.key(name), p.key(name), "other")}, p.keys(name, 1)...)
	}
	l := []string{p.key(name)}
	switch name {
	case "SADD", "SREM", "SMISMEMBER", "HDEL", "HMGET":
		return append(l, p.elements(1)...)
	case "HSET":
		for _, field := range p.elements(1) {
			l = append(l, field, p.value())
		}
		return l
	case "HSETNX":
		return append(l, p.element(), p.value())
	case "HINCRBY":
		return append(l, p.element(), p.number())
	case "HGET", "HEXISTS", "HSTRLEN", "SISMEMBER":
		return append(l, p.element())
	case "SMOVE":
		return append(l, p.pick(p.key(name), p.key(name), l[0]), p.element())
	case "SPOP":
		return append(l, p.perhaps(p.count())...)
	case "HSCAN", "SSCAN":
		return append(append(l, p.cursor()), p.options()...)
	}
	return l
}

// bend makes something of a command wrong, now and then.
func (p player) bend(command []string) []string {
	i := p.r.Intn(len(command))
	switch p.r.Intn(20) {
	case 0:
		return slices.Delete(command, i, i+1)
	case 1:
		return slices.Insert(command, i, p.pick("x", "MATCH", "COUNT", "0", "1", "", "LIMIT"))
	case 2:
		command[i] = p.pick("", "x", "01", "-0", "+1", "9223372036854775808", "-1", "0", "LIMIT", "1.5", " 1", "COUNT")
	case 3:
		if p.r.Intn(6) == 0 {
			command[i] = wide(4097)
		}
	}
	return command
}

// stir does what nobody may see: it moves objects about, and lays draws.
func stir(r *rand.Rand, s *space.Space) {
	switch r.Intn(6) {
	case 0:
		s.Heap().Collect()
	case 1:
		s.Heap().Resize(64 << r.Intn(8))
	case 2:
		s.Draw([]byte{byte(r.Intn(256))})
	}
}

// changedOf tells the places at which two states differ.
func changedOf(before, behind map[api.Place]cell) []api.Place {
	m := &model{cells: maps.Clone(before)}
	maps.Copy(m.cells, behind)
	return slices.DeleteFunc(m.places(), func(p api.Place) bool {
		was, there := before[p]
		is, stays := behind[p]
		return there == stays && was.equal(is)
	})
}

// lay lays a text, or a deadline on a key, down in the space and in the model, now and then; no command of this package does.
func lay(t *testing.T, r *rand.Rand, s *space.Space, m *model) {
	t.Helper()
	switch r.Intn(20) {
	case 0:
		cells := maps.Clone(m.cells)
		cells[at(0, "other")] = cell{kind: api.ValText, names: map[string]string{"x": ""}}
		if (&model{cells: cells}).cost() <= m.quota {
			store(t, s, "other", others(api.ValNone)[0], 0)
			m.cells = cells
		}
	case 1, 2:
		if places := m.places(); len(places) > 0 {
			p := places[r.Intn(len(places))]
			c := m.cells[p]
			c.deadline = m.clock + 1 + uint64(r.Intn(30))
			if c.deadline > api.MaxTime {
				return
			}
			m.cells[p] = c
			s.Run(0, func() api.Reply {
				s.SetDeadline(p.DB, []byte(p.Key), c.deadline)
				return api.Reply{}
			})
		}
	}
}

// TestP13_2_to_5_DrawnScripts: every reply, and all that is kept behind it, against the model; on spaces of any seed, with collections and resizes between the commands.
func TestP13_2_to_5_DrawnScripts(t *testing.T) {
	for script := range int64(150) {
		r := rand.New(rand.NewSource(script))
		quota := []int{256, 400, 1500, 16384}[r.Intn(4)]
		s, e := space.New(quota, r.Uint64())
		if e != api.OK {
			t.Fatalf("New: %d", e)
		}
		p, m := player{r}, &model{cells: map[api.Place]cell{}, quota: quota, seed: s.Seed()}
		roots := s.Heap().Stats().Roots
		for range 200 {
			lay(t, r, s, m)
			now := m.clock + uint64(r.Intn(8)) - min(m.clock, 2)
			if r.Intn(600) == 0 {
				now = r.Uint64()
			}
			db, command := r.Intn(2)*r.Intn(4), p.bend(p.command())
			if r.Intn(100) == 0 {
				db = r.Intn(9) - 4
			}
			before := maps.Clone(m.cells)
			want := m.do(now, db, slices.Clone(command))
			got := told(nest.Do(s, now, db, args(command...)))
			line := brief(strings.Join(command, " "))
			if got != want {
				t.Errorf("%s: %s, want %s", line, brief(got), brief(want))
			}
			if picture(s) != m.picture() || s.Cost() != m.cost() || s.Clock() != m.clock {
				t.Errorf("%s: there is\n%s\nand should be\n%s", line, brief(picture(s)), brief(m.picture()))
			}
			if want := changedOf(before, m.cells); !slices.Equal(s.Changed(), want) {
				t.Errorf("%s has changed %v, want %v", line, s.Changed(), want)
			}
			if n := s.Heap().Stats().Roots; n != roots {
				t.Errorf("%d handles, want %d", n, roots)
			}
			stir(r, s)
			if t.Failed() {
				t.Fatalf("in script %d", script)
			}
		}
		wantRoom(t, s)
	}
}
