package desk_test

import (
	"fmt"
	"math/rand"
	"slices"
	"strings"
	"testing"

	"larder/api"
	"larder/desk"
	"larder/record"
)

func pick(r *rand.Rand, some ...string) string { return some[r.Intn(len(some))] }

// often stands where the drawn commands come from: of each of its lines one is as likely as another. K is a key, N a number, S a side, C a channel, T a time to wait, D a database.
var often = strings.Split(strings.TrimSpace(`
SET K N
SET K N PX N
GET K
DEL K K
RPUSH K N
RPUSH K N N N
LPUSH K N
LPOP K
RPOP K
LLEN K
LMOVE K K S S
ZADD K N N
ZADD K N N N x
ZPOPMIN K
ZREM K N
INCR K
MSET K N K N
MSET K N K
RENAME K K
COPY K K REPLACE
MOVE K D
PEXPIRE K N
PERSIST K
SWAPDB D D
FLUSHALL
SORT K ALPHA STORE K
SADD K N
KEYS *
DBSIZE
BLPOP K T
BLPOP K K T
BLPOP K K K T
BRPOP K K T
BLMOVE K K S S T
BLMOVE K K S S T
BZPOPMIN K K T
BZPOPMAX K K T
blpop K T
BLPOP K x
BLPOP K -1
BLMOVE K K UP S T
MULTI
MULTI
EXEC
EXEC
EXEC
DISCARD
WATCH K
WATCH K K
UNWATCH
PING
PING C
ECHO N
SELECT D
SELECT 0
SELECT 9
SELECT x
SAVE
SUBSCRIBE C
SUBSCRIBE C C
PSUBSCRIBE C*
UNSUBSCRIBE
UNSUBSCRIBE
UNSUBSCRIBE C
PUNSUBSCRIBE
PUNSUBSCRIBE C*
PUBLISH C N
PUBLISH C N
PUBSUB CHANNELS
PUBSUB CHANNELS C*
PUBSUB NUMSUB C C
PUBSUB NUMPAT
PUBSUB NOPE
QUIT
RESET
NOPE
GET
EXEC x
PUBLISH C`), "\n")

// without tells the lines of often in which none of some words stands.
func without(some ...string) []string {
	return slices.DeleteFunc(slices.Clone(often), func(line string) bool {
		return slices.ContainsFunc(some, func(word string) bool { return strings.Contains(line, word) })
	})
}

// theme draws what the commands of a script are about.
func theme(r *rand.Rand) []string {
	switch r.Intn(4) {
	case 0:
		return often
	case 1: // transactions, seldom spoilt
		return append(without("SUB", "QUIT", "RESET", "NOPE", "EXEC x", "BLPOP", "SAVE"), "EXEC", "EXEC", "EXEC", "MULTI")
	case 2: // waiting
		return without("SUB", "QUIT", "RESET", "MULTI", "WATCH", "FLUSHALL", "SET K", "GET")
	}
	// messages
	return append(without("BL", "BZ", "QUIT", "MULTI"), "PUBLISH C N", "PUBLISH C N", "PUBLISH C N", "UNSUBSCRIBE", "PUNSUBSCRIBE", "RESET", "RESET")
}

// drawCommand draws a command over few keys, so that connections meet.
func drawCommand(r *rand.Rand, from []string) string {
	w := strings.Fields(pick(r, from...))
	for i := range w[1:] {
		switch at := &w[i+1]; (*at)[0] {
		case 'K':
			*at = pick(r, "a", "b", "c", "d", "e")
		case 'N':
			*at = pick(r, "1", "2", "3", "40")
		case 'S':
			if *at == "S" {
				*at = pick(r, "LEFT", "RIGHT", "left", "Right")
			}
		case 'C':
			if *at == "C" || *at == "C*" {
				*at = pick(r, "x", "y", "xy") + (*at)[1:]
			}
		case 'T':
			*at = pick(r, "0", "1", "3", "20")
		case 'D':
			*at = pick(r, "0", "1", "2")
		}
	}
	return strings.Join(w, " ")
}

// drawStep draws what is done to a desk next.
func drawStep(r *rand.Rand, now *uint64, conns int, from []string) string {
	if r.Intn(6) == 0 {
		*now += uint64(r.Intn(6))
	}
	conn := r.Intn(conns)
	switch r.Intn(100) {
	case 0, 1, 2, 3:
		return fmt.Sprint("tick ", *now)
	case 4:
		return fmt.Sprintf("break %d@%d", conn, *now)
	case 5, 6, 7:
		return fmt.Sprint("leave ", conn)
	case 8:
		return "entries"
	case 9:
		return "saved"
	case 10:
		return fmt.Sprintf("%d@%d", conn, *now)
	case 11:
		return fmt.Sprintf("%d@%d PING", r.Intn(3)*10-10, *now)
	}
	return fmt.Sprintf("%d@%d %s", conn, *now, drawCommand(r, from))
}

// drawScript draws one step behind the other.
func drawScript(seed int64, steps int) []string {
	r := rand.New(rand.NewSource(seed))
	now := uint64(0)
	conns := 3 + r.Intn(6)
	from := theme(r)
	var script []string
	for range steps {
		script = append(script, drawStep(r, &now, conns, from))
	}
	return append(script, "entries", "saved")
}

// meet counts what has been met in a script's answers.
func meet(met map[string]int, line, got string) {
	for _, part := range []string{"EXECABORT", "nil array", "OOM", "ERR not now", "+QUEUED", "\"message\"", "\"pmessage\"", "ERR bad time", "ERR Protocol error", "WRONGTYPE", "ERR WATCH"} {
		if strings.Contains(got, part) {
			met[part]++
		}
	}
	if strings.HasPrefix(line, "tick") && got != "" {
		met["a tick that tells"]++
	}
	if strings.Contains(line, " EXEC") && strings.Contains(got, ": [") && !strings.Contains(got, ": []") {
		met["an EXEC that does something"]++
	}
	if strings.Count(got, ": ") > 4 {
		met["many outs"]++
	}
}

func TestP19_13_DrawnScripts(t *testing.T) {
	met := map[string]int{}
	for seed := range int64(400) {
		quota := []int{256, 4000}[seed%2]
		d, m := made(t, quota), newModel(quota)
		for i, line := range drawScript(seed, 250) {
			got, want := act(d, line), m.act(line)
			if got != want {
				t.Fatalf("seed %d, step %d: %s: %s, want %s", seed, i, line, got, want)
			}
			meet(met, line, got)
		}
		if picture(d.Space()) != picture(m.space) {
			t.Fatalf("seed %d: the spaces differ", seed)
		}
	}
	if len(met) != 14 {
		t.Errorf("the scripts ask too little: %v", met)
	}
	for what, n := range met {
		if n < 40 {
			t.Errorf("the scripts ask too little: %s: %d", what, n)
		}
	}
}

// TestR13_NobodySeesTheHeap: draws, collections, resizes and the seed are not seen.
func TestR13_NobodySeesTheHeap(t *testing.T) {
	for seed := range int64(60) {
		r := rand.New(rand.NewSource(seed))
		d := made(t, 4000)
		twin, _ := desk.New(api.Config{Quota: 4000, Seed: uint64(seed) * 77})
		for i, line := range drawScript(seed+1000, 200) {
			h := twin.Space().Heap()
			switch r.Intn(5) {
			case 0:
				h.Collect()
			case 1:
				h.Resize(64 + r.Intn(4000))
			case 2:
				twin.Space().Draw([]byte{byte(r.Intn(256)), 255, 3})
			}
			if got, want := act(twin, line), act(d, line); got != want {
				t.Fatalf("seed %d, step %d: %s: %s, want %s", seed, i, line, got, want)
			}
			if roots := h.Stats().Roots; roots != d.Space().Heap().Stats().Roots {
				t.Fatalf("seed %d: %s: %d handles", seed, line, roots)
			}
		}
	}
}

// TestP19_11_EntriesTellTheSpace: what the entries tell, written and read again, makes the same space.
func TestP19_11_EntriesTellTheSpace(t *testing.T) {
	for seed := range int64(60) {
		d := made(t, 4000)
		var log []byte
		var last uint64
		for _, line := range drawScript(seed+2000, 200) {
			if line == "entries" || line == "saved" {
				continue
			}
			act(d, line)
			for _, entry := range d.Entries() {
				record, e := record.Line(entry)
				if e != api.OK {
					t.Fatalf("seed %d: %s: %d", seed, saidEntries([]api.Entry{entry}), e)
				}
				log = append(log, record...)
				last = entry.Now
			}
		}
		s, seq, n, e := record.Recover(4000, 5, nil, log)
		_, want := d.Saved()
		if e != api.OK || n != len(log) || seq != want || s.Clock() != last {
			t.Fatalf("seed %d: %d, %d bytes of %d, entry %d of %d, the clock %d of %d", seed, e, n, len(log), seq, want, s.Clock(), last)
		}
		s.Run(d.Space().Clock(), nil)
		if picture(s) != picture(d.Space()) {
			t.Errorf("seed %d: the spaces differ", seed)
		}
	}
}
