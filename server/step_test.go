package server_test

import (
	"bytes"
	"math"
	"strings"
	"testing"

	"larder/api"
	"larder/record"
)

// TestP20_3_TheClock: a step moves it, whether anything comes or not; one that lies back does not.
func TestP20_3_TheClock(t *testing.T) {
	s := made(t, 1000)
	want(t, s, step(5, "0:SET a 1 PX 10|SET b 1 PX 11|"), "0:+OK|+OK|")
	want(t, s, step(15), "")
	want(t, s, step(3, "0:GET a|GET b|TIME|"), "0:$-1|$1|1|*2|$1|0|$5|15000|")
	want(t, s, step(math.MaxUint64, "0:GET b|TIME|"), "0:$-1|*2|$13|4503599627370|$6|496000|")
	want(t, s, step(0, "0:SET a 1|SET a 1 PX 1|BLPOP q 1|"), "0:+OK|-ERR bad time|-ERR bad time|")
	wantDisk(t, s, false, 0, "1@5 0[SET a 1 PX 10]", "2@5 0[SET b 1 PX 11]", "3@4503599627370496 0[SET a 1]")
}

// TestP20_3_TickComesFirst: ahead of the chunks those whose time is over are answered, and what they held back is carried out.
func TestP20_3_TickComesFirst(t *testing.T) {
	s := made(t, 1000)
	want(t, s, step(0, "3:BLPOP q 10|RPUSH l 3|SELECT 2|", "5:BLMOVE q p LEFT LEFT 10|RPUSH l 5|SAVE|"), "")
	want(t, s, step(9), "")
	want(t, s, step(10, "0:RPUSH l 0|LRANGE l 0 -1|"), "0::3|*3|$1|3|$1|5|$1|0| 3:*-1|:1|+OK| 5:$-1|:2|+OK|")
	// SAVE came in Tick, with all that Tick had brought; what came behind it stands in the log.
	wantDisk(t, s, true, 0, "3@10 0[RPUSH l 0]")
	want(t, opened(t, 1000, api.Disk{Snap: s.Disk().Snap}), step(0, "0:LRANGE l 0 -1|"), "0:*2|$1|3|$1|5|")
}

// TestP20_3_AtTheSameReading: a further step without chunks changes nothing, of the heap's numbers neither.
func TestP20_3_AtTheSameReading(t *testing.T) {
	s := made(t, 1000)
	want(t, s, step(7, "0:ZADD z 1 a 2 b|SET k v PX 5|SET l v PX 6|", "1:BLPOP q 9|PING|", "0:"+long("m", 1000)), "0::2|+OK|+OK|+OK|")
	want(t, s, step(12, "0:DEL l|"), "0::1|")
	before, disk := s.Stats(), s.Disk()
	for range 5 {
		want(t, s, step(12), "")
		want(t, s, step(12, "2:", "8:PING|", "-1!", "3:PI"), "")
		if got := s.Stats(); got != before {
			t.Errorf("the heap's numbers: %v, want %v", got, before)
		}
	}
	if d := s.Disk(); !bytes.Equal(d.Snap, disk.Snap) || !bytes.Equal(d.Log, disk.Log) || d.Synced != disk.Synced {
		t.Error("the disk has changed")
	}
}

func TestP20_3_NoConnection(t *testing.T) {
	s := made(t, 1000)
	for _, conn := range []int{math.MinInt, -1, api.MaxConns, 1 << 32, math.MaxInt} {
		for _, hang := range []bool{false, true} {
			x := step(0, "0:PI")
			x.Chunks = append(x.Chunks, api.Chunk{Conn: conn, Data: wired("SET a 1|*x"), Hang: hang}, chunk("0:NG|"))
			want(t, s, x, "0:+PONG|")
		}
	}
	wantDisk(t, s, false, 0)
	want(t, s, step(0, "0:PING|", "7:PING|"), "0:+PONG| 7:+PONG|")
}

// TestP20_3_InOrder: the commands of all connections are carried out in the order of the chunks in which they become whole.
func TestP20_3_InOrder(t *testing.T) {
	s := made(t, 4000)
	x := step(0)
	for i := range 40 {
		x.Chunks = append(x.Chunks, chunk(string(rune('0'+(i*5+i/8)%8))+":RPUSH l "+string(rune('A'+i))+"|"))
	}
	s.Step(x)
	want(t, s, step(0, "0:LINDEX l 0|LINDEX l 17|LINDEX l 39|LLEN l|"), "0:$1|A|$1|R|$1|h|:40|")
	entries, _ := record.Read(s.Disk().Log)
	for i, e := range entries {
		if string(e.Group[0].Args[2]) != string(rune('A'+i)) {
			t.Fatalf("entry %d: %s", i, saidEntry(e))
		}
	}
	// A command belongs to the chunk that makes it whole, not to that with which it begins.
	want(t, s, step(0, "0:SET k 0", "1:SET k 1|", "0:|GET k|", "1:GET k|"), "0:+OK|$1|0| 1:+OK|$1|0|")
}

func TestP20_3_Breaks(t *testing.T) {
	for _, bad := range []string{"*x", "*129", "*01", "*-2", "*1\rx", "*1|x", "*1|$-", "*1|$4097", "*1|$1|ab", "*1|$1|a\rx", "\"a|", "'a|", "\"a\"b|", strings.Repeat("x", 1025), strings.Repeat("a ", 129) + "|"} {
		s := made(t, 1000)
		want(t, s, step(0, "0:SET a 1|MULTI|GET a|"+bad+"EXEC|PING|", "1:PING|"), "0:+OK|+OK|+QUEUED|-ERR Protocol error| 1:+PONG|")
		want(t, s, step(0, "0:PING|", "0:|PING|", "0:*1|$4|PING|", "0:"+bad), "")
		want(t, s, step(1, "0:PING|"), "")
		// The transaction has ended with the stream.
		want(t, s, step(1, "0!PING|", "0:EXEC|GET a|"), "0:-ERR EXEC without MULTI|$1|1|")
		want(t, s, step(1, "0!PING|"+bad+"PING|", "0:PING|"), "0:+PONG|-ERR Protocol error|+PONG|")
	}
}

// TestP20_3_ABreakIsHeldBack: a stream may break while its connection waits; of what comes behind the break nothing is kept.
func TestP20_3_ABreakIsHeldBack(t *testing.T) {
	s := made(t, 1000)
	want(t, s, step(0, "2:BLPOP q 0|PING|*x", "2:PING|", "2:*x"), "")
	want(t, s, step(0, "2:PING|"), "")
	want(t, s, step(0, "0:RPUSH q e|"), "0::1| 2:*2|$1|q|$1|e|+PONG|-ERR Protocol error|")
	want(t, s, step(0, "2:PING|"), "")
	want(t, s, step(0, "2:BLPOP q 0|", "2!", "2:BLPOP q 0|PING|*x", "2!", "2:PING|", "0:RPUSH q e|"), "0::1| 2:+PONG|")
}

func TestP20_3_HangUps(t *testing.T) {
	s := made(t, 1000)
	// The bytes of an unfinished request go with the connection.
	want(t, s, step(0, "0:*2|$4|PI"), "")
	want(t, s, step(0, "0!NG|$1", "0:PING|"), "0:+PONG|")
	want(t, s, step(0, "0:PI", "0!", "0:NG|PING|"), "0:-ERR unknown command|+PONG|")
	// Behind the data, not ahead of it.
	want(t, s, step(0, "0:SELECT 3|", "0!SET a 1|", "0:GET a|SELECT 3|GET a|"), "0:+OK|+OK|$-1|+OK|$1|1|")
	// All that a connection was goes.
	want(t, s, step(0, "1:WATCH k|MULTI|SET k 1|", "1!", "1:EXEC|", "2:SUBSCRIBE c|", "2!", "2:GET k|", "1:PUBLISH c m|"), "1:+OK|+OK|+QUEUED|-ERR EXEC without MULTI|:0| 2:*3|$9|subscribe|$1|c|:1|$-1|")
	want(t, s, step(0, "3:BLPOP q 5|PING|", "3!", "3:ECHO x|", "4:RPUSH q e|LLEN q|"), "3:$1|x| 4::1|:1|")
	want(t, s, step(5), "")
	// Nothing but hang-ups, one behind the other.
	want(t, s, step(5, "0!", "0!", "0!", "7!", "0:PING|"), "0:+PONG|")
}

// TestP20_3_ClosedByTheDesk: behind QUIT all bytes are passed over, up to the next Hang.
func TestP20_3_ClosedByTheDesk(t *testing.T) {
	s := made(t, 1000)
	want(t, s, step(0, "0:QUIT|PING|", "0:PING|*x"), "0:+OK|")
	want(t, s, step(0, "0:SET a 1|", "0:*1|$4|PI"), "")
	want(t, s, step(0, "0!SET a 1|", "0:GET a|"), "0:$-1|")
	// One that waits is closed when its QUIT comes to its turn.
	want(t, s, step(0, "1:BLPOP q 0|QUIT|PING|*x", "1:PING|"), "")
	want(t, s, step(0, "0:RPUSH q e|"), "0::1| 1:*2|$1|q|$1|e|+OK|")
	want(t, s, step(0, "1:PING|", "1!*x", "1:PING|"), "1:+PONG|")
	wantDisk(t, s, false, 0, "1@0 0[RPUSH q e]", "2@0 0[LPOP q]")
}

// TestP20_3_Outs: by connection, the lesser first; on one connection in their order; none, where nothing goes out.
func TestP20_3_Outs(t *testing.T) {
	s := made(t, 1000)
	want(t, s, step(0, "7:SUBSCRIBE c|", "6:PSUBSCRIBE *|", "2:PUBLISH c 1|", "2:PUBLISH d 2|PING|"), "2::2|:1|+PONG| 6:*3|$10|psubscribe|$1|*|:1|*4|$8|pmessage|$1|*|$1|c|$1|1|*4|$8|pmessage|$1|*|$1|d|$1|2| 7:*3|$9|subscribe|$1|c|:1|*3|$7|message|$1|c|$1|1|")
	want(t, s, step(0, "6:PING|", "7:PING x|"), "6:+PONG| 7:$1|x|")
	if out := s.Step(step(0)); len(out) != 0 {
		t.Errorf("%v", out)
	}
	// Requests that are no commands are answered with nothing.
	want(t, s, step(0, "0:|\n  |*0|*-1|"), "")
}

func TestP20_3_Draws(t *testing.T) {
	// Ranked sets with higher towers take more of the heap, and draws are kept from step to step.
	add := step(0, "0:ZADD z 1 a|ZADD z 2 b|ZADD z 3 c|")
	used := func(draws ...[]byte) int {
		s := made(t, 1000)
		for _, b := range draws {
			s.Step(api.Step{Draws: b})
		}
		want(t, s, add, "0::1|:1|:1|")
		s.Step(api.Step{Collect: true})
		return s.Stats().Used
	}
	low, high := used(), used([]byte{255, 255, 255})
	if low >= high {
		t.Errorf("%d words without draws, %d with", low, high)
	}
	if n := used([]byte{255}, nil, []byte{255, 255}); n != high {
		t.Errorf("%d words with the draws of several steps, want %d", n, high)
	}
	if n := used(make([]byte, api.MaxDraws), []byte{255, 255, 255}); n != low {
		t.Errorf("%d words, where draws were too many, want %d", n, low)
	}
	// The draws of a step are there for its own commands.
	s := made(t, 1000)
	add.Draws = []byte{255, 255, 255}
	want(t, s, add, "0::1|:1|:1|")
	s.Step(api.Step{Collect: true})
	if n := s.Stats().Used; n != high {
		t.Errorf("%d words, want %d", n, high)
	}
	// And for what its Tick lets go on.
	s = made(t, 1000)
	want(t, s, step(0, "0:BLPOP q 1|ZADD z 1 a|ZADD z 2 b|ZADD z 3 c|"), "")
	want(t, s, api.Step{Now: 1, Draws: []byte{255, 255, 255}, Collect: true}, "0:*-1|:1|:1|:1|")
	if n := s.Stats().Used; n != high {
		t.Errorf("%d words, want %d", n, high)
	}
}

func TestP20_3_CollectAndHalf(t *testing.T) {
	s := made(t, 1000)
	want(t, s, step(0, "0:"+long("a", 400)+long("a", 300)+"RPUSH l 1 2 3|"), "0:+OK|+OK|:3|")
	before := s.Stats()
	s.Step(api.Step{Collect: true})
	if got := s.Stats(); got.Collections != before.Collections+1 || got.Used >= before.Used {
		t.Errorf("Collect: %v behind %v", got, before)
	}
	before = s.Stats()
	s.Step(api.Step{Half: 5000})
	if got := s.Stats(); got.Half != 5000 || got.Collections != before.Collections+1 {
		t.Errorf("Half: %v behind %v", got, before)
	}
	s.Step(api.Step{Half: 300, Collect: true})
	if got := s.Stats(); got.Half != 300 || got.Collections != before.Collections+3 {
		t.Errorf("Collect and Half: %v behind %v", got, before)
	}
	before = s.Stats()
	for _, half := range []int{math.MinInt, -1, 1, 63, 64, 73537, 1 << 19, 1<<19 + 1, math.MaxInt} {
		s.Step(api.Step{Half: half})
		if got := s.Stats(); got.Half != before.Half {
			t.Errorf("Half %d: %v", half, got)
		}
	}
	// Twice this half is the heap's limit.
	s.Step(api.Step{Half: 73536})
	if got := s.Stats(); got.Half != 73536 {
		t.Errorf("the greatest half: %v", got)
	}
	// Ahead of the step's chunks, behind its Tick.
	s = made(t, 1000)
	want(t, s, step(0, "0:SET a 1 PX 5|"), "0:+OK|")
	twin := made(t, 1000)
	twin.Step(api.Step{Now: 5, Collect: true})
	s.Step(api.Step{Now: 5, Collect: true})
	if s.Stats().Used != twin.Stats().Used {
		t.Errorf("%d words are used where nothing is, want %d", s.Stats().Used, twin.Stats().Used)
	}
	x := step(5, "0:"+long("a", 400))
	x.Collect = true
	want(t, s, x, "0:+OK|")
	if got := s.Stats(); got.Used == got.Moved+1 {
		t.Error("the heap was collected behind the chunks")
	}
	want(t, s, step(5, "0:STRLEN a|"), "0::400|")
}

// TestP20_3_Save: the snapshot holds all that the call has brought; the log begins anew.
func TestP20_3_Save(t *testing.T) {
	s := made(t, 1000)
	want(t, s, step(4, "0:SET a 1|"), "0:+OK|")
	s.Sync()
	wantDisk(t, s, false, 1, "1@4 0[SET a 1]")
	want(t, s, step(5, "0:SET b 2|SAVE|SET c 3|"), "0:+OK|+OK|+OK|")
	wantDisk(t, s, true, 0, "3@5 0[SET c 3]")
	held, seq, e := record.Load(1000, seed, s.Disk().Snap)
	if e != api.OK || seq != 2 || held.Clock() != 5 || held.Size(0) != 2 {
		t.Errorf("%d: number %d", e, seq)
	}
	s.Sync()
	wantDisk(t, s, true, 1, "3@5 0[SET c 3]")
	// Inside one call: SAVE is held back, and so is what comes behind it.
	want(t, s, step(6, "1:BLPOP q 0|SAVE|SET d 4|"), "")
	want(t, s, step(6, "0:RPUSH q e|"), "0::1| 1:*2|$1|q|$1|e|+OK|+OK|")
	wantDisk(t, s, true, 0)
	held, seq, e = record.Load(1000, seed, s.Disk().Snap)
	if e != api.OK || seq != 6 || held.Clock() != 6 || held.Size(0) != 4 {
		t.Errorf("%d: number %d", e, seq)
	}
	// A SAVE that is refused is none.
	want(t, s, step(7, "0:SET e 5|SAVE x|MULTI|SAVE|", "1:SUBSCRIBE c|SAVE|"), "0:+OK|-ERR wrong number of arguments|+OK|-ERR not now| 1:*3|$9|subscribe|$1|c|:1|-ERR not now|")
	wantDisk(t, s, true, 0, "7@7 0[SET e 5]")
}

// TestP20_4_TheLog: what has changed something is written, in the order in which it was carried out.
func TestP20_4_TheLog(t *testing.T) {
	s := made(t, 1000)
	s.Sync()
	wantDisk(t, s, false, 0)
	want(t, s, step(3, "0:set a 1|SET a 1|GET a|INCR a|INCR|LPUSH a x|", "1:SELECT 2|RPUSH l x y|BLPOP l 0|", "2:MULTI|SET m 1|GET m|DEL m|DEL m|EXEC|"), "0:+OK|+OK|$1|1|:2|-ERR wrong number of arguments|-WRONGTYPE another kind of value| 1:+OK|:2|*2|$1|l|$1|x| 2:+OK|+QUEUED|+QUEUED|+QUEUED|+QUEUED|*4|+OK|$1|1|:1|:0|")
	log := []string{"1@3 0[set a 1]", "2@3 0[INCR a]", "3@3 2[RPUSH l x y]", "4@3 2[LPOP l]", "5@3 0[SET m 1] 0[DEL m]"}
	wantDisk(t, s, false, 0, log...)
	s.Sync()
	wantDisk(t, s, false, 5, log...)
	want(t, s, step(4, "0:DEL a|"), "0::1|")
	log = append(log, "6@4 0[DEL a]")
	wantDisk(t, s, false, 5, log...)
	s.Sync()
	s.Sync()
	wantDisk(t, s, false, 6, log...)
}

// TestP20_5_Stats: of the heap on which all lies.
func TestP20_5_Stats(t *testing.T) {
	s := made(t, 1000)
	empty := s.Stats()
	if empty.Limit != 16*1000+131072 || empty.Used == 0 || empty.Roots == 0 {
		t.Errorf("%v", empty)
	}
	want(t, s, step(0, "0:"+long("a", 3000)), "0:+OK|")
	if got := s.Stats(); got.Large-empty.Large < 375 || got.Slots != empty.Slots+1 || got.Roots != empty.Roots {
		t.Errorf("%v behind %v", got, empty)
	}
	want(t, s, step(0, "0:DEL a|"), "0::1|")
	s.Step(api.Step{Collect: true})
	if got := s.Stats(); got.Large != empty.Large || got.Slots != empty.Slots || got.Collections == empty.Collections {
		t.Errorf("%v behind %v", got, empty)
	}
}
