package desk_test

import (
	"fmt"
	"testing"
	"time"

	"larder/api"
)

const patience = 20 * time.Second

func wantSoon(t *testing.T, start time.Time) {
	t.Helper()
	if took := time.Since(start); took > patience {
		t.Errorf("took %v", took)
	}
}

func TestR1_TimeOfManyCommands(t *testing.T) {
	d := made(t, 16384)
	start := time.Now()
	for i := range 40000 {
		d.Submit(i%api.MaxConns, uint64(i), words(fmt.Sprintf("SET k%d %d", i%500, i)))
	}
	d.Entries()
	wantSoon(t, start)
}

func TestR1_TimeOfManyHeldBack(t *testing.T) {
	d := made(t, 16384)
	start := time.Now()
	play(t, d, "1@0 BLPOP q 1 =>")
	for range 40000 {
		d.Submit(1, 0, words("INCR n"))
	}
	if outs := d.Tick(1); len(outs) != 40001 {
		t.Errorf("%d outs", len(outs))
	}
	if entries := d.Entries(); len(entries) != 40000 {
		t.Errorf("%d entries", len(entries))
	}
	wantSoon(t, start)
}

func TestR1_TimeOfLongKeys(t *testing.T) {
	d := made(t, 16384)
	start := time.Now()
	for conn := range api.MaxConns - 1 {
		args := words("BLPOP")
		for i := range api.MaxWait {
			args = append(args, []byte(long(4094)+fmt.Sprintf("%02d", i)))
		}
		d.Submit(conn, 0, append(args, []byte("0")))
	}
	for range 100 {
		d.Submit(7, 0, words("PING"))
	}
	outs := d.Submit(7, 0, append(append(words("RPUSH"), []byte(long(4094)+"63")), words("1 2 3 4 5 6 7")...))
	if len(outs) != 8 {
		t.Errorf("%d outs", len(outs))
	}
	wantSoon(t, start)
}

// TestR1_InsideARun: what a desk does there is not said, but it comes to an end, and goes on to work behind it.
func TestR1_InsideARun(t *testing.T) {
	d := made(t, 2000)
	play(t, d, "0@0 RPUSH l a => 0: :1", "0@0 ZADD z 1 m => 0: :1", "1@0 BLPOP q 5 =>", "2@0 BZPOPMIN r 0 =>", "2@0 PING =>", "5@0 BLMOVE q r LEFT LEFT 0 =>", "3@0 MULTI => 3: +OK", "3@0 SET k 1 => 3: +QUEUED")
	d.Space().Run(0, func() api.Reply {
		d.Space().Store(0, []byte("q"), api.Value{Kind: api.ValList, List: words("a b")})
		d.Space().Store(0, []byte("r"), api.Value{Kind: api.ValRank, Ranked: []api.Scored{{Member: []byte("m")}}})
		for _, line := range []string{"tick 9", "0@9 GET k", "0@9 BLPOP l 0", "0@9 BZPOPMAX z 0", "0@9 BLMOVE l m LEFT LEFT 0", "3@9 EXEC", "break 6@9", "leave 6", "6@9 WATCH k", "entries", "saved"} {
			act(d, line)
		}
		return api.Reply{}
	})
	play(t, d, "7@9 SET k 2 => 7: +OK", "7@9 GET k => 7: \"2\"")
}
