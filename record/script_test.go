package record_test

import (
	"bytes"
	"fmt"
	"math/rand"
	"regexp"
	"testing"

	"larder/api"
	"larder/board"
	"larder/record"
	"larder/space"
)

// player draws commands.
type player struct{ r *rand.Rand }

// drawn is commands of all families; what stands in brackets is drawn: a key, mostly of a text, list, hash, set or ranked set; an element; a number; a time; a database.
var drawn = []string{
	"SET <t> <e>", "SET <t> <n>", "SET <k> <e> PX <p>", "SET <t> <e> KEEPTTL", "APPEND <t> <e>", "INCRBY <t> <n>", "SETRANGE <t> 3 <e>", "SETBIT <t> 9 1", "GETDEL <t>", "MSET <t> <e> <t> <n>", "GETEX <t> PX <p>",
	"RPUSH <l> <e> <e> <e>", "LPUSH <l> <n> <e>", "LPOP <l>", "RPOP <l> 2", "LSET <l> 0 <e>", "LTRIM <l> 1 -1", "LREM <l> 0 <e>", "LMOVE <l> <l> LEFT RIGHT", "LINSERT <l> BEFORE <e> <e>",
	"HSET <h> <e> <e> <e> <n>", "HDEL <h> <e>", "HINCRBY <h> <e> <n>", "HSETNX <h> <e> <e>",
	"SADD <s> <e> <e> <n>", "SREM <s> <e>", "SMOVE <s> <s> <e>", "SUNIONSTORE <s> <s> <s>", "SDIFFSTORE <k> <s> <s>", "SINTERSTORE <s> <s> <s>",
	"ZADD <z> <n> <e> <n> <e>", "ZADD <z> XX <n> <e>", "ZINCRBY <z> <n> <e>", "ZREM <z> <e>", "ZPOPMIN <z>", "ZUNIONSTORE <k> 2 <z> <z>", "ZINTERSTORE <z> 2 <z> <s>",
	"PEXPIRE <k> <p>", "PEXPIRE <k> <p> GT", "PEXPIREAT <k> <n>", "PERSIST <k>", "DEL <k> <k>", "RENAME <k> <k>", "RENAMENX <k> <k>", "COPY <k> <k> REPLACE", "COPY <k> <k> DB <d>", "MOVE <k> <d>", "SWAPDB <d> <d>", "SORT <l> ALPHA STORE <k>", "SORT <s> BY none STORE <l>",
	"GET <t>", "TYPE <k>", "LRANGE <l> 0 -1", "SCAN 0", "TIME", "DBSIZE", "NOSUCH <k>", "SET <k>", "HSET <h> <e>", "INCR <l>", "FLUSHDB",
}

var gap = regexp.MustCompile("<.>")

func (p player) fill(what string) string {
	pick := func(l ...string) string { return l[p.r.Intn(len(l))] }
	switch what {
	case "<e>":
		if p.r.Intn(10) == 0 {
			return long(p.r.Intn(300))
		}
		return pick("a", "b", "c", "ab", "", "\x00", "\xff", "\xaa", "7", "-1")
	case "<n>":
		return pick("0", "1", "-1", "5", "300", "-9223372036854775808", "9223372036854775807")
	case "<p>":
		return fmt.Sprint(p.r.Intn(60))
	case "<d>":
		return fmt.Sprint(p.r.Intn(4))
	case "<k>":
		return pick("t", "l", "h", "s", "z", "t2", "l2", "h2", "s2", "z2", "", "other")
	}
	return what[1:2] + pick("", "", "2")
}

func (p player) act() api.Act {
	form := drawn[p.r.Intn(len(drawn))]
	if form == "FLUSHDB" && p.r.Intn(3) > 0 {
		form = "SADD <s> <e>"
	}
	found := act(form)
	found.DB = max(0, p.r.Intn(8)-4)
	for i, arg := range found.Args {
		found.Args[i] = []byte(gap.ReplaceAllStringFunc(string(arg), p.fill))
	}
	return found
}

// moment is how a space was behind an entry, or when a snapshot was made.
type moment struct {
	seq     int64
	clock   uint64
	picture string
	snap    []byte
}

// history is a space's commands as a log, with how it was behind each entry; the first is that of a new space.
type history struct {
	log     []byte
	ends    []int
	behind  []moment
	anytime []moment
}

// written plays drawn commands and logs those that changed something, by P16.11's words.
func written(t *testing.T, p player, quota, n int) history {
	t.Helper()
	s := made(t, quota)
	h := history{ends: []int{0}, behind: []moment{{}}}
	now := uint64(0)
	for range n {
		if p.r.Intn(3) == 0 {
			now += uint64(p.r.Intn(20))
		}
		s.Draw([]byte{byte(p.r.Intn(256))})
		a := p.act()
		board.Do(s, now, a.DB, a.Args)
		seq := int64(len(h.behind))
		if len(s.Changed()) > 0 {
			h.log = append(h.log, line(t, api.Entry{Seq: seq, Now: s.Clock(), Group: []api.Act{a}})...)
			h.ends = append(h.ends, len(h.log))
			h.behind = append(h.behind, moment{seq: seq, clock: s.Clock(), picture: picture(s)})
		}
		if p.r.Intn(6) == 0 {
			seq := int64(len(h.behind) - 1)
			h.anytime = append(h.anytime, moment{seq, s.Clock(), picture(s), record.Dump(s, seq)})
		}
	}
	return h
}

// wantRecovered asks what a snapshot gives with the log from entry from on, cut at a place.
func (h history) wantRecovered(t *testing.T, quota int, m moment, from int64, cut int) int64 {
	t.Helper()
	n, end := before(h.ends, cut)
	want := h.behind[n]
	if want.seq < m.seq {
		want = m
	}
	begin := h.ends[from-1]
	s, last, good, e := record.Recover(quota, 99, m.snap, h.log[begin:cut])
	if e != api.OK || last != want.seq || good != end-begin {
		t.Fatalf("snapshot %d, log from %d up to byte %d: %d, number %d, %d bytes, want %d, %d", m.seq, from, cut, e, last, good, want.seq, end-begin)
	}
	if picture(s) != want.picture || s.Clock() != max(want.clock, m.clock) {
		t.Fatalf("snapshot %d, log from %d up to byte %d: clock %d, %s want %d, %s", m.seq, from, cut, s.Clock(), picture(s), max(want.clock, m.clock), want.picture)
	}
	return last
}

// TestP16_11_Recovery: any snapshot, the log from any earlier or that very time on, cut anywhere.
func TestP16_11_Recovery(t *testing.T) {
	for round := range 4 {
		p := player{rand.New(rand.NewSource(int64(round)))}
		quota := []int{1500, 600, 16384}[round%3]
		h := written(t, p, quota, 220)
		if len(h.behind) < 50 || len(h.anytime) < 10 {
			t.Fatalf("round %d: %d entries, %d snapshots", round, len(h.behind), len(h.anytime))
		}
		h.anytime = append(h.anytime, moment{})
		for _, m := range h.anytime {
			for range 12 {
				from := 1 + p.r.Int63n(m.seq+1)
				begin := h.ends[from-1]
				h.wantRecovered(t, quota, m, from, begin+p.r.Intn(len(h.log)-begin+1))
				// Just at, ahead of and behind a record's end.
				i := from - 1 + p.r.Int63n(int64(len(h.ends))-from+1)
				for cut := h.ends[i] - 1; cut <= h.ends[i]+1; cut++ {
					if cut >= begin && cut <= len(h.log) {
						h.wantRecovered(t, quota, m, from, cut)
					}
				}
			}
		}
	}
}

// TestP16_11_ALongerRest: cut at every byte, the longer log never gives an earlier state.
func TestP16_11_ALongerRest(t *testing.T) {
	p := player{rand.New(rand.NewSource(77))}
	h := written(t, p, 1500, 30)
	for _, m := range append(h.anytime, moment{}) {
		last := int64(0)
		for cut := range len(h.log) + 1 {
			got := h.wantRecovered(t, 1500, m, 1, cut)
			if got < last {
				t.Errorf("snapshot %d, up to byte %d: number %d behind %d", m.seq, cut, got, last)
			}
			last = got
		}
	}
}

// TestP16_9_LoadOfDump: drawn spaces, whatever the seed; and what is recovered is dumped as what it was.
func TestP16_9_LoadOfDump(t *testing.T) {
	for round := range 10 {
		p := player{rand.New(rand.NewSource(int64(100 + round)))}
		h := written(t, p, 3000, 150)
		for _, m := range h.anytime {
			s, seq, e := record.Load(3000, p.r.Uint64(), m.snap)
			if e != api.OK || seq != m.seq || s.Clock() != m.clock || picture(s) != m.picture {
				t.Fatalf("%d, number %d of %d: %s want %s", e, seq, m.seq, picture(s), m.picture)
			}
			if !isSnapshot(m.snap) || !bytes.Equal(record.Dump(s, seq), m.snap) {
				t.Fatalf("number %d: the snapshot is another", seq)
			}
			wantOwn(t, s)
		}
	}
}

// TestP16_11_Groups: entries of several commands, as one.
func TestP16_11_Groups(t *testing.T) {
	p := player{rand.New(rand.NewSource(5))}
	s, e := space.New(2000, 3)
	if e != api.OK {
		t.Fatal(e)
	}
	var log []byte
	ends, pictures := []int{0}, []string{""}
	for seq := int64(1); seq <= 40; seq++ {
		group := api.Entry{Seq: seq, Now: uint64(seq * 7)}
		for range 1 + p.r.Intn(9) {
			a := p.act()
			group.Group = append(group.Group, a)
			board.Do(s, group.Now, a.DB, a.Args)
		}
		log = append(log, line(t, group)...)
		ends, pictures = append(ends, len(log)), append(pictures, picture(s))
	}
	for range 300 {
		cut := p.r.Intn(len(log) + 1)
		n, end := before(ends, cut)
		got := recovered(t, "groups", 2000, nil, log[:cut], int64(n), end)
		if picture(got) != pictures[n] || got.Clock() != uint64(7*n) {
			t.Fatalf("up to %d: %s want %s", n, picture(got), pictures[n])
		}
	}
}
