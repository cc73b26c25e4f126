package server_test

import (
	"bytes"
	"fmt"
	"testing"

	"larder/api"
	"larder/record"
	"larder/server"
	"larder/space"
	"larder/wire"
)

// wantWithin asks that the heap has no more words than it may.
func wantWithin(t *testing.T, s *server.Server, quota int) {
	t.Helper()
	if h := s.Stats(); h.Limit != 16*quota+131072 || 2*h.Half+h.Large > h.Limit || h.Used > h.Half {
		t.Fatalf("the heap's numbers: %v", h)
	}
}

// floorOf is the least number of words that a space takes: those of all bytes that it holds.
func floorOf(s *space.Space) int {
	sum := 0
	count := func(b []byte) { sum += (len(b) + 7) / 8 }
	for db := range api.MaxDB {
		for _, key := range s.Keys(db) {
			count(key)
			v, _ := s.Value(db, key)
			count(v.Text)
			for _, b := range v.List {
				count(b)
			}
			for _, p := range v.Pairs {
				count(p.Field)
				count(p.Value)
			}
			for _, m := range v.Ranked {
				count(m.Member)
			}
		}
	}
	return sum
}

// held is what a server holds.
func held(t *testing.T, s *server.Server) *space.Space {
	t.Helper()
	found, _, e := record.Load(api.MaxQuota, seed, []byte(picture(t, s)))
	if e != api.OK {
		t.Fatal(e)
	}
	return found
}

// TestP20_10_FloorAndCeiling: of what is used behind a collection, as long as nothing was refused for its cost.
func TestP20_10_FloorAndCeiling(t *testing.T) {
	full := 0
	for n := range 40 {
		draw := playerOf(3000 + n)
		quota := []int{2000, 5000, api.MaxQuota}[n%3]
		s := made(t, quota)
		refused := false
		for i, m := range draw.shaken(draw.framed(draw.events(300))) {
			if m.sync {
				continue
			}
			for _, b := range s.Step(m.step) {
				refused = refused || bytes.Contains(b.Data, []byte("-OOM"))
			}
			if i%25 > 0 {
				continue
			}
			if o := opened(t, quota, s.Disk()); !refused {
				wantBelowCeiling(t, o)
			}
			now := held(t, s)
			s.Step(api.Step{Now: m.step.Now, Collect: true})
			h := s.Stats()
			words, cost := h.Used+h.Large, now.Cost()
			if words < floorOf(now) {
				t.Fatalf("script %d, step %d: %d words, less than %d", n, i, words, floorOf(now))
			}
			if !refused && words > cost+cost/64+256 {
				t.Fatalf("script %d, step %d: %d words, where all costs %d", n, i, words, cost)
			}
			if !refused && cost > 700 {
				full++
			}
		}
	}
	if full < 20 {
		t.Errorf("the scripts ask too little: %d", full)
	}
}

// wantBelowCeiling collects and asks that no more words are used than what all keys cost allows for.
func wantBelowCeiling(t *testing.T, s *server.Server) {
	t.Helper()
	cost := used(t, s)
	s.Step(api.Step{Collect: true})
	if h := s.Stats(); h.Used+h.Large > cost+cost/64+256 {
		t.Fatalf("%d words, where all costs %d", h.Used+h.Large, cost)
	}
}

// TestP20_10_CeilingOfEachKind: values that grow to the quota and shrink to nothing, element by element, ranked sets with the highest towers.
func TestP20_10_CeilingOfEachKind(t *testing.T) {
	const quota = 6000
	for _, c := range []struct{ add, remove string }{
		{"RPUSH k %04d|", "LREM k 1 %04d|"},
		{"HSET k %04d x|", "HDEL k %04d|"},
		{"HSET k %04d 123456789|", "HDEL k %04d|"},
		{"SADD k %04d|", "SREM k %04d|"},
		{"ZADD k 1 %04d|", "ZREM k %04d|"},
		{"ZADD k 1 1234567890%04d|", "ZREM k 1234567890%04d|"},
		{"SET %04d x|", "DEL %04d|"},
		{"SADD %04d x|", "DEL %04d|"},
		{"ZADD %04d 1 x|", "DEL %04d|"},
	} {
		s := made(t, quota)
		n := 0
		for ; used(t, s) < quota-150; n++ {
			x := step(0, "0:"+fmt.Sprintf(c.add, n))
			x.Draws = []byte{255, 255}
			if out := told(s.Step(x)); out == "0:-OOM|" {
				t.Fatalf("%s: %s", saidStep(x), out)
			}
			wantBelowCeiling(t, s)
		}
		for i := range n {
			want(t, s, step(0, "0:"+fmt.Sprintf(c.remove, i)), "0::1|")
			wantBelowCeiling(t, s)
		}
		if used(t, s) != 0 {
			t.Errorf("%s: something is left", c.remove)
		}
	}
}

// used tells what all keys of a server cost.
func used(t *testing.T, s *server.Server) int {
	t.Helper()
	var n int
	fmt.Sscanf(told(s.Step(step(0, "6:MEMORY USED|"))), "6::%d|", &n)
	return n
}

// TestR10_WhatIsRefused: a command is answered OOM if and only if behind it all keys would cost more than the quota; a server with a greater quota tells.
func TestR10_WhatIsRefused(t *testing.T) {
	lines := slicesWithout(linesOf(onValues), "NOPE", "MEMORY")
	lines = append(lines, "SET <t> <f>", "APPEND <t> <f>", "RPUSH <l> <f> <f>", "HSET <h> <e> <f>", "HSET <h> <f> <e>", "SADD <s> <f> <e>", "ZADD <z> 1 <f>", "ZADD <z> 1 <f> 2 <f> 3 <f>", "SORT <l> ALPHA GET # GET # GET # STORE <k>", "COPY <k> <f>", "RENAME <k> <f>")
	refused, done := 0, 0
	for n := range 8 {
		draw := playerOf(4000 + n)
		quota := []int{256, 600, 2500}[n%3]
		s := made(t, quota)
		for i := range 150 {
			args := draw.command(lines)
			for j, a := range args {
				if string(a) == "<f>" {
					args[j] = bytes.Repeat([]byte{byte('a' + draw.r.Intn(3))}, draw.r.Intn(quota*4))
					args[j] = args[j][:min(len(args[j]), api.MaxText)]
				}
			}
			b, _ := wire.Command(args)
			x := api.Step{Now: uint64(i), Draws: []byte{byte(draw.r.Intn(256))}, Chunks: []api.Chunk{{Data: b}}}
			s.Step(api.Step{Now: x.Now})
			before := picture(t, s)
			twin := opened(t, api.MaxQuota, api.Disk{Snap: []byte(before)})
			reply := told(twin.Step(x))
			over := used(t, twin) > quota
			got := told(s.Step(x))
			if over {
				reply = "0:-OOM|"
				refused++
			} else {
				done++
			}
			if got != reply {
				t.Fatalf("script %d, command %d: %.100q: %.100q, want %.100q", n, i, args, got, reply)
			}
			want := before
			if !over {
				want = picture(t, twin)
			}
			if picture(t, s) != want {
				t.Fatalf("script %d, command %d: %.100q: it holds something else", n, i, args)
			}
			wantWithin(t, s, quota)
		}
	}
	if refused < 100 || done < 400 {
		t.Errorf("the scripts ask too little: %d were refused, %d not", refused, done)
	}
}

// TestR10_AtTheQuota: what is just within it is taken, for whatever kind of value; the heap has room for it.
func TestR10_AtTheQuota(t *testing.T) {
	for _, quota := range []int{api.MinQuota, 1000, api.MaxQuota} {
		for _, c := range []struct {
			first, more string // the commands that lay down the first and each further element of a key "k"
			base, each  int
		}{
			{"RPUSH k a|", "RPUSH k a|", 27 + 8, 9},
			{"HSET k 0000 a|", "HSET k %04d a|", 27 + 40, 22},
			{"SADD k 0000|", "SADD k %04d|", 27 + 40, 19},
			{"ZADD k 1 0000|", "ZADD k 1 %04d|", 27 + 96, 46},
			{"SET 0000 a|", "SET %04d a|", 0, 30},
		} {
			s := made(t, quota)
			most := (quota - c.base) / c.each
			s.Step(step(0, "0:"+c.first))
			for i := 1; i <= most+1; i++ {
				line := c.more
				if bytes.Contains([]byte(line), []byte("%")) {
					line = fmt.Sprintf(line, i)
				}
				out := told(s.Step(step(0, "0:"+line)))
				if (out == "0:-OOM|") != (i >= most) {
					t.Fatalf("quota %d: %s: %s", quota, line, out)
				}
				wantWithin(t, s, quota)
			}
			if n := used(t, s); n != c.base+c.each*most {
				t.Errorf("quota %d: %s: %d", quota, c.more, n)
			}
		}
	}
}
