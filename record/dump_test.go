package record_test

import (
	"bytes"
	"fmt"
	"runtime"
	"testing"
	"time"

	"larder/api"
	"larder/record"
	"larder/space"
)

func wantDump(t *testing.T, what string, s *space.Space, seq int64, want []byte) {
	t.Helper()
	if got := record.Dump(s, seq); !bytes.Equal(got, want) {
		t.Errorf("%s: Dump: %q, want %q", what, got, want)
	}
}

func TestP16_6_Examples(t *testing.T) {
	s := made(t, 1000)
	b := record.Dump(s, 0)
	if len(b) != 48 || string(b[:8]) != "LARDER01" || !bytes.Equal(b[8:40], make([]byte, 32)) {
		t.Errorf("of a new space: %q", b)
	}
	wantDump(t, "of a new space", s, 0, shot{}.bytes())
	give(t, s, 7, "SET k abc")
	if b := record.Dump(s, 0); len(b) != 69 || s.Cost() != 30 {
		t.Errorf("of one key: %d bytes, it costs %d", len(b), s.Cost())
	}
	wantDump(t, "of one key", s, 1, shot{1, 7, [4][]held{{{"k", 0, 1, text("abc")}}}}.bytes())
}

func TestP16_6_AllKinds(t *testing.T) {
	s := given(t, 4000, 7, rich...)
	wantDump(t, "all kinds", s, 9, richShot().bytes())
	x := richShot()
	for _, seq := range []int64{0, 1, 255, 1 << 40, greatest} {
		x.seq = uint64(seq)
		wantDump(t, "all kinds", s, seq, x.bytes())
	}
	for _, seq := range []int64{-1, -2, -1 << 40, -1 << 63} {
		if b := record.Dump(s, seq); len(b) != 0 {
			t.Errorf("with the number %d: %d bytes", seq, len(b))
		}
	}
}

// TestP16_6_Order: keys, fields and members by their bytes, a list as it stands, a ranked set by score and member, below 0 ahead of above.
func TestP16_6_Order(t *testing.T) {
	s := given(t, 4000, 0, "SET b 1", "SET \"\\xff\" 1", "SET a\"\"b 1", "SET \"\" 1", "SET a 1", "SET \"a\\x00\" 1", "SET aa 1", "SET B 1",
		"@1 HSET h b 1 \"\\x80\" 2 a 3 ab 4 \"\" 5 B 6", "@1 SADD s b \"\\x80\" a ab \"\" B", "@1 RPUSH l b \"\\x80\" a ab \"\" B b",
		"@1 ZADD z 1 b 0 c -1 d -9223372036854775808 e 9223372036854775807 f 0 \"\\x80\" 0 \"\" 0 cc -1 a 256 g 255 h")
	b := "\x80"
	one := func(key string) held { return held{key, 0, 1, text("1")} }
	wantDump(t, "the order", s, 0, shot{0, 0, [4][]held{
		{one(""), one("B"), one("a"), one("a\x00"), one("a\"\"b"), one("aa"), one("b"), one("\xff")},
		{
			{"h", 0, 3, pairs("", "5", "B", "6", "a", "3", "ab", "4", "b", "1", b, "2")},
			{"l", 0, 2, counted("b", b, "a", "ab", "", "B", "b")},
			{"s", 0, 4, counted("", "B", "a", "ab", "b", b)},
			{"z", 0, 5, ranked("-9223372036854775808", "e", "-1", "a", "-1", "d", "0", "", "0", "c", "0", "cc", "0", b, "1", "b", "255", "h", "256", "g", "9223372036854775807", "f")},
		},
	}}.bytes())
}

// TestP16_6_Databases: each part stands in its database's place, however great the others are.
func TestP16_6_Databases(t *testing.T) {
	s := made(t, 16384)
	var x shot
	long := string(bytes.Repeat([]byte("v"), 4096))
	for db := range 4 {
		for i := range []int{20, 0, 7, 1}[db] {
			key := fmt.Sprintf("%d-%02d", db, i)
			give(t, s, 0, fmt.Sprintf("@%d SET %s %s", db, key, long[:4096-i]))
			x.keys[db] = append(x.keys[db], held{key, 0, 1, text(long[:4096-i])})
		}
	}
	for range 50 {
		wantDump(t, "four databases", s, 0, x.bytes())
	}
}

// TestP16_6_WhatIsGoneIsNotTold: what passed away, and what a command that was refused would have laid down.
func TestP16_6_WhatIsGoneIsNotTold(t *testing.T) {
	s := given(t, 300, 5, "SET a 1 PX 10", "SET b 2 PX 20", "RPUSH l x", "LPOP l")
	if r := try(s, 15, "SET c "+string(bytes.Repeat([]byte("x"), 3000))); r.Kind != api.ReplyError {
		t.Fatal("it is not refused")
	}
	wantDump(t, "behind the deadline", s, 3, shot{3, 15, [4][]held{{{"b", 25, 1, text("2")}}}}.bytes())
	if r := try(s, latest+9, "GET b"); r.Kind != api.ReplyNil {
		t.Fatal("it is there")
	}
	wantDump(t, "at the end of times", s, 3, shot{seq: 3, clock: latest}.bytes())
}

// TestP16_6_NothingChanges: not the keys, not the heap, not the draws, not what the last Run changed.
func TestP16_6_NothingChanges(t *testing.T) {
	s := given(t, 4000, 7, rich...)
	s.Draw([]byte{1, 3, 7})
	was, stats, changed, cost := picture(s), s.Heap().Stats(), s.Changed(), s.Cost()
	for range 5 {
		record.Dump(s, 9)
		record.Dump(s, -1)
	}
	if picture(s) != was || s.Heap().Stats() != stats || fmt.Sprint(s.Changed()) != fmt.Sprint(changed) || s.Cost() != cost || s.Clock() != 7 {
		t.Errorf("the heap was %v, is %v", stats, s.Heap().Stats())
	}
	for _, want := range []int{2, 3, 4, 1} {
		if got := s.Level(); got != want {
			t.Errorf("level %d, want %d", got, want)
		}
	}
}

// TestR13_NobodySeesTheHeap: seeds, draws, collections, resizes, what was there before.
func TestR13_NobodySeesTheHeap(t *testing.T) {
	want := richShot().bytes()
	for i := range 8 {
		s, e := space.New(3000+1000*i, uint64(i)<<60+uint64(i))
		if e != api.OK {
			t.Fatal(e)
		}
		if i%2 == 1 {
			give(t, s, uint64(i%7), "SET k x", "RPUSH h a", "@1 SADD s a b c d e f g h i j k l m n o p q", "@1 FLUSHDB", "DEL h", "ZADD z 3 m 4 r 5 x", "ZREM z x")
		}
		for j, l := range rich {
			s.Draw([]byte{byte(i * j), 0xff, byte(j)})
			give(t, s, 7, l)
			if i > 3 {
				s.Heap().Collect()
				s.Heap().Resize(1000 * (1 + j))
			}
		}
		wantDump(t, fmt.Sprintf("space %d", i), s, 9, want)
	}
}

// TestR1_DumpInsideARun: what it answers is not said, but it ends, and the Run goes on.
func TestR1_DumpInsideARun(t *testing.T) {
	s := given(t, 4000, 7, rich...)
	_, e := s.Run(8, func() api.Reply {
		s.Edit(1, []byte("hollow"), api.ValHash)
		record.Dump(s, 9)
		s.Remove(0, []byte("k"))
		record.Dump(s, 9)
		return api.Reply{}
	})
	x := richShot()
	x.clock = 8
	x.keys[0] = append(x.keys[0][:2:2], x.keys[0][3:]...)
	wantDump(t, "behind the Run", s, 9, x.bytes())
	if e != api.OK {
		t.Errorf("the Run: %d", e)
	}
}

// TestGoroutinesHaveEnded: none is left behind.
func TestGoroutinesHaveEnded(t *testing.T) {
	s := given(t, 4000, 7, rich...)
	was := runtime.NumGoroutine()
	for range 200 {
		record.Dump(s, 9)
	}
	for range 100 {
		// One that has ended its work may still be on its way out.
		if runtime.NumGoroutine() <= was {
			return
		}
		time.Sleep(10 * time.Millisecond)
	}
	t.Errorf("%d goroutines, at first %d", runtime.NumGoroutine(), was)
}
