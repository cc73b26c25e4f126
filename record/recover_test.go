package record_test

import (
	"bytes"
	"fmt"
	"slices"
	"testing"

	"larder/api"
	"larder/record"
	"larder/space"
)

// recovered asks what Recover answers beside the space.
func recovered(t *testing.T, what string, quota int, snap, log []byte, last int64, good int) *space.Space {
	t.Helper()
	s, got, read, e := record.Recover(quota, seed, snap, log)
	if s == nil || e != api.OK {
		t.Fatalf("%s: Recover: %v, %d", what, s, e)
	}
	if got != last || read != good {
		t.Errorf("%s: number %d, %d bytes, want %d, %d", what, got, read, last, good)
	}
	return s
}

// counting is records with numbers from .. to, each of which lays its own number down; all are of one length.
func counting(t *testing.T, from, to int64) []byte {
	t.Helper()
	var log []byte
	for i := from; i <= to; i++ {
		log = append(log, line(t, entry(i, uint64(100+i), "RPUSH l "+fmt.Sprintf("%02d", i), "INCR n"))...)
	}
	return log
}

func TestP16_10_Examples(t *testing.T) {
	snap := record.Dump(given(t, 4000, 50, "SET n 4"), 4)
	size := len(counting(t, 1, 1))
	for _, c := range []struct {
		what  string
		log   []byte
		last  int64
		reads int
		list  string
	}{
		{"3, 4, 5, 6", counting(t, 3, 6), 6, 4, "[05 06]"},
		{"6, 7", counting(t, 6, 7), 4, 0, "[]"},
		{"2, 3", counting(t, 2, 3), 4, 2, "[]"},
		{"nothing", nil, 4, 0, "[]"},
		{"1 to 4", counting(t, 1, 4), 4, 4, "[]"},
		{"1 to 5", counting(t, 1, 5), 5, 5, "[05]"},
		{"5", counting(t, 5, 5), 5, 1, "[05]"},
		{"5 to 9", counting(t, 5, 9), 9, 5, "[05 06 07 08 09]"},
		{"4, and 6", append(counting(t, 4, 4), counting(t, 6, 6)...), 4, 1, "[]"},
		{"5, and 7", append(counting(t, 5, 5), counting(t, 7, 7)...), 5, 1, "[05]"},
		{"5, and 5", append(counting(t, 5, 5), counting(t, 5, 6)...), 5, 1, "[05]"},
		{"5 and zeros", append(counting(t, 5, 5), make([]byte, 100)...), 5, 1, "[05]"},
		{"4, 5 and a part", counting(t, 4, 6)[:3*size-1], 5, 2, "[05]"},
		{"a part", counting(t, 5, 5)[:size-1], 4, 0, "[]"},
		{"no record", []byte("x"), 4, 0, "[]"},
	} {
		s := recovered(t, c.what, 4000, snap, c.log, c.last, c.reads*size)
		v, _ := s.Value(0, []byte("l"))
		n, _ := s.Value(0, []byte("n"))
		if got := fmt.Sprintf("%s", v.List); got != c.list || string(n.Text) != fmt.Sprint(c.last) {
			t.Errorf("%s: l is %s, n is %s", c.what, got, n.Text)
		}
		clock := uint64(50)
		if c.last > 4 {
			clock = uint64(100 + c.last)
		}
		if s.Clock() != clock {
			t.Errorf("%s: the clock is %d, want %d", c.what, s.Clock(), clock)
		}
		wantOwn(t, s)
	}
}

// TestP16_10_WithoutASnapshot: an empty one is that of nothing, at number 0.
func TestP16_10_WithoutASnapshot(t *testing.T) {
	size := len(counting(t, 1, 1))
	s := recovered(t, "from 1 on", 4000, nil, counting(t, 1, 3), 3, 3*size)
	if s.Size(0) != 2 || s.Clock() != 103 {
		t.Errorf("%s", picture(s))
	}
	s = recovered(t, "from 2 on", 4000, nil, counting(t, 2, 3), 0, 0)
	if s.Size(0) != 0 || s.Clock() != 0 {
		t.Errorf("%s", picture(s))
	}
	s = recovered(t, "of nothing", 4000, nil, nil, 0, 0)
	if s.Size(0) != 0 || s.Quota() != 4000 || s.Seed() != seed {
		t.Errorf("%s", picture(s))
	}
}

// TestP16_10_TheLastNumbers: nothing wraps round.
func TestP16_10_TheLastNumbers(t *testing.T) {
	a, b := line(t, entry(greatest-1, 5, "SET a 1")), line(t, entry(greatest, 6, "SET b 2"))
	log := slices.Concat(a, b)
	none := made(t, 1000)
	s := recovered(t, "both", 1000, record.Dump(none, greatest-2), log, greatest, len(log))
	if s.Size(0) != 2 {
		t.Errorf("%s", picture(s))
	}
	s = recovered(t, "the last", 1000, record.Dump(none, greatest-1), log, greatest, len(log))
	if s.Size(0) != 1 {
		t.Errorf("%s", picture(s))
	}
	s = recovered(t, "none", 1000, record.Dump(none, greatest), log, greatest, len(log))
	if s.Size(0) != 0 || s.Clock() != 0 {
		t.Errorf("%s", picture(s))
	}
	recovered(t, "too far", 1000, record.Dump(none, greatest-3), log, greatest-3, 0)
	log = line(t, entry(1, 5, "SET a 1"))
	recovered(t, "a first one", 1000, record.Dump(none, greatest), log, greatest, len(log))
}

// TestP16_10_TheClock: it is the entry's, or the snapshot's, if that is later; what was passed over does not move it.
func TestP16_10_TheClock(t *testing.T) {
	x := shot{4, 50, [4][]held{{{"a", 60, 1, text("x")}, {"b", 70, 1, text("x")}}}}
	for _, c := range []struct {
		log   []byte
		last  int64
		clock uint64
		size  int
	}{
		{line(t, entry(4, 1000, "SET c 1")), 4, 50, 2},
		{line(t, entry(5, 0, "SET c 1")), 5, 50, 3},
		{line(t, entry(5, 59, "SET c 1")), 5, 59, 3},
		{line(t, entry(5, 60, "SET c 1")), 5, 60, 2},
		{line(t, entry(5, 70, "NOSUCH")), 5, 70, 0},
		{line(t, entry(5, latest, "SET c 1")), 5, latest, 1},
		{slices.Concat(line(t, entry(4, 65, "SET c 1")), line(t, entry(5, 65, "SET c 1"))), 5, 65, 2},
		{slices.Concat(line(t, entry(5, 10, "SET c 1 PX 5")), line(t, entry(6, 54, "TIME")), line(t, entry(7, 55, "TIME"))), 7, 55, 2},
	} {
		s := recovered(t, "clock", 1000, x.bytes(), c.log, c.last, len(c.log))
		if s.Clock() != c.clock || s.Size(0) != c.size {
			t.Errorf("the clock is %d, want %d: %s", s.Clock(), c.clock, picture(s))
		}
	}
}

// TestP16_10_Commands: each in its database, in its order; what they are answered with is not looked at.
func TestP16_10_Commands(t *testing.T) {
	e := entry(1, 9, "SET a 1", "@3 APPEND a x", "@3 APPEND a y", "NOSUCH", "RPUSH a x", "@1 ZADD z 1 m x n", "@1 ZADD z 1 m", "SET a", "SET big "+long(3000), "@2 RPUSH l 1 2", "@2 LPOP l", "MULTI", "SAVE", "\"\"", "@2 RENAME l m", "SET t 1 PX 1")
	log := line(t, e)
	s := recovered(t, "commands", 400, nil, log, 1, len(log))
	want := given(t, 400, 9, "SET a 1", "@3 SET a xy", "@1 ZADD z 1 m", "@2 RPUSH m 2", "SET t 1 PX 1")
	if picture(s) != picture(want) || s.Clock() != 9 {
		t.Errorf("%s, want %s", picture(s), picture(want))
	}
	full := api.Entry{Seq: 1, Now: 1}
	for i := range 64 {
		full.Group = append(full.Group, act(fmt.Sprintf("@%d SADD s %d", i%4, i)))
	}
	log = line(t, full)
	s = recovered(t, "the longest group", 16384, nil, log, 1, len(log))
	for db := range 4 {
		if v, _ := s.Value(db, []byte("s")); len(v.List) != 16 {
			t.Errorf("database %d: %q", db, v.List)
		}
	}
}

// TestP16_10_TheErrorsOfLoad: a log does not mend them.
func TestP16_10_TheErrorsOfLoad(t *testing.T) {
	log := counting(t, 1, 3)
	great := record.Dump(given(t, 1000, 0, "SET k "+long(3000)), 0)
	for _, c := range []struct {
		quota int
		snap  []byte
		want  api.Errno
	}{
		{255, nil, api.ErrSpaceQuota}, {16385, []byte("x"), api.ErrSpaceQuota}, {256, []byte("x"), api.ErrRecordSnap}, {256, great, api.ErrRecordRoom}, {256, great[:len(great)-1], api.ErrRecordSnap},
	} {
		if s, last, good, e := record.Recover(c.quota, seed, c.snap, log); s != nil || last != 0 || good != 0 || e != c.want {
			t.Errorf("%v, %d, %d, %d, want %d", s != nil, last, good, e, c.want)
		}
	}
}

// TestP16_10_TheLogIsReadAsReadReadsIt: cut, spoilt and forged.
func TestP16_10_TheLogIsReadAsReadReadsIt(t *testing.T) {
	log := counting(t, 1, 4)
	size := len(log) / 4
	for i := range log {
		spoilt := bytes.Clone(log)
		spoilt[i] ^= 0x10
		for _, b := range [][]byte{log[:i], spoilt, append(bytes.Clone(log[:i]), make([]byte, 300)...)} {
			s := recovered(t, "a spoilt log", 4000, nil, b, int64(i/size), i/size*size)
			if v, _ := s.Value(0, []byte("l")); len(v.List) != i/size {
				t.Errorf("%d: %q", i, v.List)
			}
		}
	}
}

// TestR10_RecoveryWithinTheQuota: what a smaller quota has no room for is refused, the rest is carried out.
func TestR10_RecoveryWithinTheQuota(t *testing.T) {
	log := slices.Concat(line(t, entry(1, 1, "SET a "+long(1000))), line(t, entry(2, 2, "SET b "+long(1000), "SET c 1")), line(t, entry(3, 3, "DEL a", "SET b "+long(999))))
	s := recovered(t, "quota 256", 256, nil, log, 3, len(log))
	want := given(t, 256, 3, "SET c 1", "SET b "+long(999))
	if picture(s) != picture(want) {
		t.Errorf("%s", picture(s))
	}
}
