package text_test

import (
	"fmt"
	"maps"
	"math/rand"
	"slices"
	"strings"
	"testing"

	"larder/api"
	"larder/space"
	"larder/text"
)

// player draws commands.
type player struct{ r *rand.Rand }

func (p player) pick(l ...string) string { return l[p.r.Intn(len(l))] }

func (p player) key() string {
	return p.pick("a", "b", "c", "", "ab", "other", strings.Repeat("k", 300))
}

func (p player) text() string {
	switch p.r.Intn(8) {
	case 0:
		return p.number()
	case 1:
		return strings.Repeat(string(rune('a'+p.r.Intn(26))), p.r.Intn(700))
	case 2:
		return strings.Repeat("\xff", p.r.Intn(4))
	case 3:
		return strings.Repeat("x", 4090+p.r.Intn(7))
	}
	b := make([]byte, p.r.Intn(12))
	p.r.Read(b)
	return string(b)
}

func (p player) number() string {
	switch p.r.Intn(10) {
	case 0:
		return p.pick("9223372036854775807", "-9223372036854775808", "9223372036854775806", "4503599627370496", "4503599627370", "1152921504606846976")
	case 1:
		return fmt.Sprint(p.r.Uint64() >> 1)
	case 2:
		return fmt.Sprint(-int64(p.r.Uint64() >> p.r.Intn(63)))
	case 3:
		return p.pick("4095", "4096", "4097", "32767", "32768")
	case 4:
		return fmt.Sprint(p.r.Intn(5000))
	}
	return fmt.Sprint(p.r.Intn(40) - 8)
}

// word is one of these, its letters small or capital.
func (p player) word(l ...string) string {
	w := p.pick(l...)
	if p.r.Intn(3) == 0 {
		w = strings.ToLower(w)
	}
	return w
}

// perhaps is the arguments, or none.
func (p player) perhaps(l ...string) []string {
	if p.r.Intn(2) == 0 {
		return nil
	}
	return l
}

func (p player) time() []string {
	return []string{p.word("EX", "PX", "EXAT", "PXAT"), p.pick("1", "2", "5", "10", "30", "60", p.number())}
}

func (p player) setOptions() []string {
	groups := [][]string{p.perhaps(p.word("NX", "XX")), p.perhaps(p.word("GET")), p.perhaps(p.word("KEEPTTL")), p.perhaps(p.time()...)}
	if p.r.Intn(4) > 0 {
		groups[2+p.r.Intn(2)] = nil
	}
	p.r.Shuffle(len(groups), func(i, j int) { groups[i], groups[j] = groups[j], groups[i] })
	return slices.Concat(groups...)
}

func (p player) window() []string {
	l := []string{p.number(), p.number(), p.word("BIT", "BYTE")}
	return l[:p.r.Intn(4)]
}

func (p player) operation() []string {
	if p.r.Intn(4) == 0 {
		return []string{p.word("OVERFLOW"), p.word("WRAP", "SAT", "FAIL")}
	}
	field := []string{fmt.Sprint(p.pick("i", "u"), 1+p.r.Intn(66)), p.pick("", "", "#") + p.pick(p.number(), fmt.Sprint(p.r.Intn(50)))}
	if p.r.Intn(2) == 0 {
		field[0] = p.pick("u8", "i8", "u1", "i64", "u63", "i5", "u3")
	}
	if p.r.Intn(3) == 0 {
		return append([]string{p.word("GET")}, field...)
	}
	return append([]string{p.word("SET", "INCRBY")}, append(field, p.number())...)
}

// some is a few arguments, each drawn anew.
func (p player) some(least int, draw func() []string) []string {
	var l []string
	for range least + p.r.Intn(4) {
		l = append(l, draw()...)
	}
	return l
}

func (p player) keys() []string { return []string{p.key()} }

func (p player) pair() []string { return []string{p.key(), p.text()} }

// command is one that is right as often as not.
func (p player) command() []string {
	name := p.pick("APPEND", "BITCOUNT", "BITFIELD", "BITFIELD", "BITOP", "BITPOS", "DECR", "DECRBY", "GET", "GETBIT", "GETDEL", "GETEX", "GETRANGE", "GETSET", "INCR", "INCRBY", "MGET", "MSET", "MSETNX", "PSETEX", "SET", "SET", "SET", "SETBIT", "SETEX", "SETNX", "SETRANGE", "STRLEN")
	return append([]string{p.word(name)}, p.behind(name)...)
}

// behind is what stands behind a command's name.
func (p player) behind(name string) []string {
	switch name {
	case "MGET":
		return p.some(1, p.keys)
	case "MSET", "MSETNX":
		return p.some(1, p.pair)
	case "BITOP":
		return append([]string{p.word("AND", "OR", "XOR", "NOT"), p.key()}, p.some(1, p.keys)...)
	}
	l := []string{p.key()}
	switch name {
	case "SET":
		return append(append(l, p.text()), p.setOptions()...)
	case "SETEX", "PSETEX":
		return append(l, p.time()[1], p.text())
	case "GETEX":
		return append(l, slices.Concat(p.perhaps(p.word("PERSIST")), p.perhaps(p.time()...))...)
	case "APPEND", "GETSET", "SETNX":
		return append(l, p.text())
	case "SETRANGE":
		return append(l, p.number(), p.text())
	case "GETRANGE":
		return append(l, p.number(), p.number())
	case "INCRBY", "DECRBY", "GETBIT":
		return append(l, p.number())
	case "SETBIT":
		return append(l, p.number(), p.pick("0", "1", "0", "1", p.number()))
	case "BITCOUNT":
		return append(l, p.window()...)
	case "BITPOS":
		return append(append(l, p.pick("0", "1", "0", "1", p.number())), p.window()...)
	case "BITFIELD":
		return append(l, p.some(0, p.operation)...)
	}
	return l
}

// bend makes something of a command wrong, now and then.
func (p player) bend(command []string) []string {
	i := p.r.Intn(len(command))
	switch p.r.Intn(20) {
	case 0:
		return slices.Delete(command, i, i+1)
	case 1:
		return slices.Insert(command, i, p.pick("x", "NX", "BIT", "0", "", "GET"))
	case 2:
		command[i] = p.pick("", "x", "01", "-0", "+1", "9223372036854775808", "EX", "i65", "u0", "#", "#x", "1.5", " 1")
	case 3:
		if p.r.Intn(6) == 0 {
			command[i] = wide(4097)
		}
	}
	return command
}

// stir does what nobody may see: it moves objects about, and lays draws.
func stir(r *rand.Rand, s *space.Space) {
	switch r.Intn(6) {
	case 0:
		s.Heap().Collect()
	case 1:
		s.Heap().Resize(64 << r.Intn(8))
	case 2:
		s.Draw([]byte{byte(r.Intn(256))})
	}
}

// changedOf tells the places at which two states differ.
func changedOf(before, behind map[api.Place]cell) []api.Place {
	m := &model{cells: maps.Clone(before)}
	maps.Copy(m.cells, behind)
	return slices.DeleteFunc(m.places(), func(p api.Place) bool {
		was, there := before[p]
		is, stays := behind[p]
		return there == stays && was == is
	})
}

// TestP11_15_16_DrawnScripts: every reply, and all that is kept behind it, against the model; on spaces of any seed, with collections and resizes between the commands.
func TestP11_15_16_DrawnScripts(t *testing.T) {
	for script := range int64(120) {
		r := rand.New(rand.NewSource(script))
		quota := []int{256, 400, 1500, 16384}[r.Intn(4)]
		s, e := space.New(quota, r.Uint64())
		if e != api.OK {
			t.Fatalf("New: %d", e)
		}
		p, m := player{r}, &model{cells: map[api.Place]cell{}, quota: quota}
		roots, now := s.Heap().Stats().Roots, uint64(0)
		for range 150 {
			other := maps.Clone(m.cells)
			other[at(0, "other")] = cell{text: "x", other: true}
			if r.Intn(10) == 0 && (&model{cells: other}).cost() <= quota {
				store(t, s, "other", others()[0], 0)
				m.cells = other
			}
			now = m.clock + uint64(r.Intn(8)) - min(m.clock, 2)
			if r.Intn(400) == 0 {
				now = r.Uint64()
			}
			db, command := r.Intn(2)*r.Intn(4), p.bend(p.command())
			if r.Intn(100) == 0 {
				db = r.Intn(9) - 4
			}
			before := maps.Clone(m.cells)
			want := m.do(now, db, slices.Clone(command))
			got := told(text.Do(s, now, db, args(command...)))
			if got != want {
				t.Errorf("%s: %s, want %s", brief(strings.Join(command, " ")), brief(got), brief(want))
			}
			if picture(s) != m.picture() || s.Cost() != m.cost() || s.Clock() != m.clock {
				t.Errorf("%s: there is\n%s\nand should be\n%s", brief(strings.Join(command, " ")), picture(s), m.picture())
			}
			if want := changedOf(before, m.cells); !slices.Equal(s.Changed(), want) {
				t.Errorf("%s has changed %v, want %v", brief(strings.Join(command, " ")), s.Changed(), want)
			}
			if n := s.Heap().Stats().Roots; n != roots {
				t.Errorf("%d handles, want %d", n, roots)
			}
			stir(r, s)
			if t.Failed() {
				t.Fatalf("in script %d", script)
			}
		}
		wantRoom(t, s)
	}
}
