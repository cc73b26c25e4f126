package order_test

import (
	"fmt"
	"maps"
	"math/rand"
	"slices"
	"strings"
	"testing"

	"larder/api"
	"larder/order"
	"larder/space"
)

// player draws commands.
type player struct{ r *rand.Rand }

func (p player) pick(l ...string) string { return l[p.r.Intn(len(l))] }

// key is mostly one that has a ranked set.
func (p player) key() string {
	if p.r.Intn(12) == 0 {
		return p.pick("", "set", "other", "to", "to", strings.Repeat("k", 300))
	}
	return p.pick("z1", "z1", "z2", "z3")
}

// sources is counted keys, a set now and then among them.
func (p player) sources() []string {
	n := 1 + p.r.Intn(4)
	l := []string{fmt.Sprint(n)}
	for range n {
		if p.r.Intn(5) == 0 {
			l = append(l, "set")
		} else {
			l = append(l, p.key())
		}
	}
	return l
}

// element is one of a few, so that there are equal ones, or now and then a longer one.
func (p player) element() string {
	switch n := p.r.Intn(100); {
	case n < 2:
		return strings.Repeat(p.pick("x", "y"), p.r.Intn(700))
	case n < 3:
		return strings.Repeat("x", 4090+p.r.Intn(7))
	case n < 6:
		b := make([]byte, p.r.Intn(12))
		p.r.Read(b)
		return string(b)
	case n < 36:
		return p.pick("x", "y", "z", "", "xx", "nx")
	}
	return fmt.Sprint("e", p.r.Intn(40))
}

func (p player) elements() []string {
	var l []string
	for range 1 + p.r.Intn(6) {
		l = append(l, p.element())
	}
	return l
}

func (p player) number() string {
	switch p.r.Intn(16) {
	case 0:
		return p.pick(greatest, least, "9223372036854775806", "-9223372036854775807", "4294967296", "-2147483648", "3037000500")
	case 1:
		return fmt.Sprint(int64(p.r.Uint64()))
	}
	return fmt.Sprint(p.r.Intn(14) - 7)
}

// count is a number that is mostly one that may be.
func (p player) count() string {
	if p.r.Intn(6) == 0 {
		return p.number()
	}
	return fmt.Sprint(p.r.Intn(5))
}

// word is one of these, its letters small or capital.
func (p player) word(l ...string) string {
	w := p.pick(l...)
	if p.r.Intn(3) == 0 {
		w = strings.ToLower(w)
	}
	return w
}

// perhaps is the arguments, or none.
func (p player) perhaps(l ...string) []string {
	if p.r.Intn(2) == 0 {
		return nil
	}
	return l
}

// seldom is the arguments, or mostly none.
func (p player) seldom(l ...string) []string {
	if p.r.Intn(5) > 0 {
		return nil
	}
	return l
}

// shuffled is options in any order.
func (p player) shuffled(groups ...[]string) []string {
	p.r.Shuffle(len(groups), func(i, j int) { groups[i], groups[j] = groups[j], groups[i] })
	return slices.Concat(groups...)
}

func (p player) cursor() string {
	if p.r.Intn(2) == 0 {
		return fmt.Sprint(p.r.Uint64())
	}
	return p.pick("0", "0", "1", "18446744073709551615", "9223372036854775808")
}

// ends is two ends of a range, of places, of scores or of members.
func (p player) ends(by string) []string {
	var l []string
	for range 2 {
		switch by {
		case "BYSCORE":
			l = append(l, p.pick(p.number(), p.number(), "("+p.number(), "-inf", "+inf", "inf", "(inf"))
		case "BYLEX":
			l = append(l, p.pick("["+p.element(), "("+p.element(), "-", "+"))
		default:
			l = append(l, p.number())
		}
	}
	// Wide ones more often than chance has them.
	if wide := map[string][]string{"BYSCORE": {"-3", "(5"}, "BYLEX": {"(e1", "+"}, "": {"1", "-2"}}[by]; p.r.Intn(3) == 0 {
		copy(l, wide)
	}
	if p.r.Intn(3) == 0 && by != "" {
		slices.Reverse(l)
	}
	return l
}

// command is one that is right as often as not.
func (p player) command() []string {
	names := strings.Fields(strings.Repeat("ZADD ", 20) + "ZRANGE ZRANGE ZRANGE ZUNIONSTORE ZUNION ZINTER ZSCAN ZINCRBY")
	for _, c := range order.Commands() {
		names = append(names, c.Name)
	}
	name := p.pick(names...)
	return append([]string{p.word(name)}, p.behind(name)...)
}

// behind is what stands behind a command's name.
func (p player) behind(name string) []string {
	switch name {
	case "ZUNION", "ZINTER", "ZDIFF", "ZINTERCARD":
		return p.joint(name)
	case "ZUNIONSTORE", "ZINTERSTORE", "ZDIFFSTORE":
		return append([]string{p.pick(p.key(), "to", "to", "to", "set")}, p.joint(name)...)
	case "ZMPOP":
		return slices.Concat(p.sources(), []string{p.word("MIN", "MAX")}, p.perhaps(p.word("COUNT"), p.count()))
	case "ZRANGESTORE":
		return append([]string{p.pick(p.key(), "to", "to", "other")}, p.ranged(name)...)
	case "ZADD":
		return p.add()
	}
	if strings.Contains(name, "RANGE") || strings.HasSuffix(name, "COUNT") {
		return p.ranged(name)
	}
	l := []string{p.key()}
	switch name {
	case "ZINCRBY":
		return append(l, p.number(), p.element())
	case "ZMSCORE", "ZREM":
		return append(l, p.elements()...)
	case "ZSCORE":
		return append(l, p.element())
	case "ZRANK", "ZREVRANK":
		return append(append(l, p.element()), p.perhaps(p.word("WITHSCORE"))...)
	case "ZPOPMIN", "ZPOPMAX":
		return append(l, p.perhaps(p.count())...)
	case "ZSCAN":
		return slices.Concat(l, []string{p.cursor()}, p.shuffled(p.perhaps(p.word("MATCH"), p.pick("*", "x*", "?", "e[0-4]", "*1*", "", "xx", "[")), p.perhaps(p.word("COUNT"), p.count())))
	}
	return l
}

func (p player) add() []string {
	l := []string{p.key()}
	l = append(l, p.shuffled(p.seldom(p.word("NX", "XX", "XX")), p.seldom(p.word("GT", "LT")), p.seldom(p.word("CH")))...)
	if p.r.Intn(6) == 0 {
		return append(l, p.word("INCR"), p.number(), p.element())
	}
	for _, member := range p.elements() {
		l = append(l, p.number(), member)
	}
	if p.r.Intn(8) == 0 {
		for range 20 {
			l = append(l, p.number(), p.element())
		}
	}
	return l
}

func (p player) ranged(name string) []string {
	by := ""
	for _, w := range []string{"SCORE", "LEX"} {
		if strings.Contains(name, w) {
			by = "BY" + w
		}
	}
	if name == "ZCOUNT" {
		by = "BYSCORE"
	}
	var options []string
	limit := p.perhaps(p.word("LIMIT"), p.count(), p.number())
	switch name {
	case "ZRANGE", "ZRANGESTORE":
		by = p.pick("", "BYSCORE", "BYLEX")
		groups := [][]string{p.perhaps(p.word("REV"))}
		if by != "" {
			groups = append(groups, []string{p.word(by)}, limit)
		}
		if by != "BYLEX" && name == "ZRANGE" {
			groups = append(groups, p.perhaps(p.word("WITHSCORES")))
		}
		options = p.shuffled(groups...)
	case "ZREVRANGE":
		options = p.perhaps(p.word("WITHSCORES"))
	case "ZRANGEBYSCORE", "ZREVRANGEBYSCORE":
		options = p.shuffled(limit, p.perhaps(p.word("WITHSCORES")))
	case "ZRANGEBYLEX", "ZREVRANGEBYLEX":
		options = limit
	}
	return slices.Concat([]string{p.key()}, p.ends(by), options)
}

func (p player) joint(name string) []string {
	l := p.sources()
	weights := []string{p.word("WEIGHTS")}
	for range len(l) - 1 {
		weights = append(weights, p.number())
	}
	aggregate := p.perhaps(p.word("AGGREGATE"), p.word("SUM", "MIN", "MAX"))
	switch name {
	case "ZUNION", "ZINTER":
		return append(l, p.shuffled(p.perhaps(weights...), aggregate, p.perhaps(p.word("WITHSCORES")))...)
	case "ZUNIONSTORE", "ZINTERSTORE":
		return append(l, p.shuffled(p.seldom(weights...), aggregate)...)
	case "ZDIFF":
		return append(l, p.perhaps(p.word("WITHSCORES"))...)
	case "ZINTERCARD":
		return append(l, p.perhaps(p.word("LIMIT"), p.count())...)
	}
	return l
}

// bend makes something of a command wrong, now and then.
func (p player) bend(command []string) []string {
	i := p.r.Intn(len(command))
	switch p.r.Intn(20) {
	case 0:
		return slices.Delete(command, i, i+1)
	case 1:
		return slices.Insert(command, i, p.pick("x", "NX", "REV", "0", "1", "", "LIMIT", "BYLEX", "WITHSCORES", "INCR", "WEIGHTS", "COUNT"))
	case 2:
		command[i] = p.pick("", "x", "01", "-0", "+1", "9223372036854775808", "-1", "0", "LIMIT", "1.5", " 1", "(1", "[x", "GT", "MAX", "BYSCORE")
	case 3:
		if p.r.Intn(6) == 0 {
			command[i] = wide(4097)
		}
	}
	return command
}

// stir does what nobody may see: it moves objects about, and lays draws.
func stir(r *rand.Rand, s *space.Space) {
	switch r.Intn(6) {
	case 0:
		s.Heap().Collect()
	case 1:
		s.Heap().Resize(64 << r.Intn(8))
	case 2, 3:
		s.Draw([]byte{byte(r.Intn(256)), byte(r.Intn(256)), 255})
	}
}

// changedOf tells the places at which two states differ.
func changedOf(before, behind map[api.Place]cell) []api.Place {
	m := &model{cells: maps.Clone(before)}
	maps.Copy(m.cells, behind)
	return slices.DeleteFunc(m.places(), func(p api.Place) bool {
		was, there := before[p]
		is, stays := behind[p]
		return there == stays && was.equal(is)
	})
}

// lay lays a text or a set, or a deadline on a key, down in the space and in the model, now and then; no command of this package does.
func lay(t *testing.T, r *rand.Rand, s *space.Space, m *model) {
	t.Helper()
	switch r.Intn(20) {
	case 0:
		layCell(t, s, m, "other", cell{kind: api.ValText, scores: map[string]int64{"x": 1}})
	case 1, 2:
		layCell(t, s, m, "set", cell{kind: api.ValSet, scores: map[string]int64{"x": 1, "e1": 1, fmt.Sprint("e", r.Intn(40)): 1}})
	case 3:
		if places := m.places(); len(places) > 0 {
			p := places[r.Intn(len(places))]
			c := m.cells[p]
			c.deadline = m.clock + 1 + uint64(r.Intn(300))
			if c.deadline > api.MaxTime {
				return
			}
			m.cells[p] = c
			s.Run(0, func() api.Reply {
				s.SetDeadline(p.DB, []byte(p.Key), c.deadline)
				return api.Reply{}
			})
		}
	}
}

func layCell(t *testing.T, s *space.Space, m *model, key string, c cell) {
	t.Helper()
	cells := maps.Clone(m.cells)
	cells[at(0, key)] = c
	if (&model{cells: cells}).cost() <= m.quota {
		store(t, s, key, c.value(), 0)
		m.cells = cells
	}
}

// TestP14_2_to_19_DrawnScripts: every reply, and all that is kept behind it, against the model; on spaces of any seed, with draws, collections and resizes between the commands.
func TestP14_2_to_19_DrawnScripts(t *testing.T) {
	for script := range int64(150) {
		r := rand.New(rand.NewSource(script))
		quota := []int{256, 1500, 6000, 16384, 16384}[r.Intn(5)]
		s, e := space.New(quota, r.Uint64())
		if e != api.OK {
			t.Fatalf("New: %d", e)
		}
		p, m := player{r}, &model{cells: map[api.Place]cell{}, quota: quota, seed: s.Seed()}
		roots := s.Heap().Stats().Roots
		for range 200 {
			lay(t, r, s, m)
			now := m.clock + uint64(r.Intn(8)) - min(m.clock, 2)
			if r.Intn(600) == 0 {
				now = r.Uint64()
			}
			db, command := 0, p.bend(p.command())
			if r.Intn(10) == 0 {
				db = r.Intn(4)
			}
			if r.Intn(100) == 0 {
				db = r.Intn(9) - 4
			}
			before := maps.Clone(m.cells)
			want := m.do(now, db, slices.Clone(command))
			got := told(order.Do(s, now, db, args(command...)))
			line := brief(strings.Join(command, " "))
			if got != want {
				t.Errorf("%s: %s, want %s", line, brief(got), brief(want))
			}
			if picture(s) != m.picture() || s.Cost() != m.cost() || s.Clock() != m.clock {
				t.Errorf("%s: there is\n%s\nand should be\n%s", line, brief(picture(s)), brief(m.picture()))
			}
			if want := changedOf(before, m.cells); !slices.Equal(s.Changed(), want) {
				t.Errorf("%s has changed %v, want %v", line, s.Changed(), want)
			}
			if n := s.Heap().Stats().Roots; n != roots {
				t.Errorf("%d handles, want %d", n, roots)
			}
			stir(r, s)
			if t.Failed() {
				t.Fatalf("in script %d", script)
			}
		}
		wantRoom(t, s)
	}
}
