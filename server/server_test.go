package server_test

import (
	"bytes"
	"fmt"
	"math"
	"strings"
	"testing"

	"larder/api"
	"larder/record"
	"larder/server"
)

const seed = 7

func made(t *testing.T, quota int) *server.Server {
	t.Helper()
	s, e := server.New(api.Config{Quota: quota, Seed: seed})
	if s == nil || e != api.OK {
		t.Fatalf("New: %d", e)
	}
	return s
}

func opened(t *testing.T, quota int, d api.Disk) *server.Server {
	t.Helper()
	s, e := server.Open(api.Config{Quota: quota, Seed: seed}, d)
	if s == nil || e != api.OK {
		t.Fatalf("Open: %d", e)
	}
	return s
}

// wired writes CR LF where | stands.
func wired(s string) []byte { return []byte(strings.ReplaceAll(s, "|", "\r\n")) }

// chunk is written "CONN:BYTES", or "CONN!BYTES" for one behind which is hung up.
func chunk(s string) api.Chunk {
	at := strings.IndexAny(s, ":!")
	c := api.Chunk{Data: wired(s[at+1:]), Hang: s[at] == '!'}
	fmt.Sscan(s[:at], &c.Conn)
	return c
}

// step is a reading and chunks.
func step(now uint64, chunks ...string) api.Step {
	t := api.Step{Now: now}
	for _, c := range chunks {
		t.Chunks = append(t.Chunks, chunk(c))
	}
	return t
}

// told writes what goes out as "CONN:BYTES", one behind the other.
func told(all []api.Bytes) string {
	var parts []string
	for _, b := range all {
		parts = append(parts, fmt.Sprintf("%d:%s", b.Conn, strings.ReplaceAll(string(b.Data), "\r\n", "|")))
	}
	return strings.Join(parts, " ")
}

// want plays a step and asks what goes out.
func want(t *testing.T, s *server.Server, x api.Step, out string) {
	t.Helper()
	if got := told(s.Step(x)); got != out {
		t.Errorf("%.300s: %.2000q, want %.2000q", saidStep(x), got, out)
	}
}

// saidStep writes a step by its reading and its chunks.
func saidStep(x api.Step) string {
	s := fmt.Sprint(x.Now)
	for _, c := range x.Chunks {
		s += fmt.Sprintf(" %d%q", c.Conn, c.Data)
		if c.Hang {
			s += "!"
		}
	}
	return s
}

// wantDisk asks what lies on the disk: whether there is a snapshot, the commands of the log's entries, and how many of these are safe.
func wantDisk(t *testing.T, s *server.Server, snap bool, safe int, entries ...string) {
	t.Helper()
	d := s.Disk()
	if snap != (len(d.Snap) > 0) {
		t.Errorf("a snapshot of %d bytes", len(d.Snap))
	}
	found, n := record.Read(d.Log)
	if n != len(d.Log) {
		t.Errorf("of the log's %d bytes %d are records", len(d.Log), n)
	}
	var said []string
	size := 0
	for i, e := range found {
		said = append(said, saidEntry(e))
		if i < safe {
			line, _ := record.Line(e)
			size += len(line)
		}
	}
	if strings.Join(said, ", ") != strings.Join(entries, ", ") {
		t.Errorf("the log: %q, want %q", said, entries)
	}
	if d.Synced != size {
		t.Errorf("%d bytes are safe, want %d", d.Synced, size)
	}
}

// saidEntry writes an entry as NUMBER@CLOCK, and its commands with their databases.
func saidEntry(e api.Entry) string {
	s := fmt.Sprintf("%d@%d", e.Seq, e.Now)
	for _, a := range e.Group {
		s += fmt.Sprintf(" %d[%s]", a.DB, bytes.Join(a.Args, []byte(" ")))
	}
	return s
}

// long is a SET of a key to so many bytes.
func long(key string, n int) string {
	return fmt.Sprintf("*3|$3|SET|$%d|%s|$%d|%s|", len(key), key, n, strings.Repeat("x", n))
}

// picture is all that a server holds, with its clock and its last entry's number: what it saves. The server is left with another disk.
func picture(t *testing.T, s *server.Server) string {
	t.Helper()
	want(t, s, step(0, "7!", "7:SAVE|", "7!"), "7:+OK|")
	return string(s.Disk().Snap)
}

func TestP20_1_New(t *testing.T) {
	for _, quota := range []int{api.MinQuota, 1000, api.MaxQuota} {
		s := made(t, quota)
		wantDisk(t, s, false, 0)
		want(t, s, step(0, "0:MEMORY QUOTA|MEMORY USED|DBSIZE|TIME|"), fmt.Sprintf("0::%d|:0|:0|*2|$1|0|$1|0|", quota))
		if h := s.Stats(); h.Limit != 16*quota+131072 {
			t.Errorf("quota %d: the heap's limit is %d", quota, h.Limit)
		}
	}
	for _, quota := range []int{math.MinInt, -1, 0, api.MinQuota - 1, api.MaxQuota + 1, math.MaxInt} {
		if s, e := server.New(api.Config{Quota: quota}); s != nil || e != api.ErrServerQuota {
			t.Errorf("quota %d: %d", quota, e)
		}
	}
}

func TestP20_1_ServersHaveNothingInCommon(t *testing.T) {
	a, b := made(t, 1000), made(t, 1000)
	want(t, a, step(9, "0:SET a 1|*1|", "1:SUBSCRIBE c|"), "0:+OK| 1:*3|$9|subscribe|$1|c|:1|")
	want(t, b, step(0, "0:GET a|PUBLISH c m|TIME|"), "0:$-1|:0|*2|$1|0|$1|0|")
	wantDisk(t, b, false, 0)
	if a.Stats() == b.Stats() {
		t.Error("the heaps have the same numbers")
	}
}

func TestP20_2_Refused(t *testing.T) {
	s := made(t, 1000)
	want(t, s, step(0, "0:"+long("k", 2000), "0:SAVE|"), "0:+OK|+OK|")
	snap := s.Disk().Snap
	for _, quota := range []int{math.MinInt, -1, api.MinQuota - 1, api.MaxQuota + 1, math.MaxInt} {
		for _, d := range []api.Disk{{}, {Snap: snap}, {Snap: []byte("x")}, {Log: []byte("x")}} {
			if s, e := server.Open(api.Config{Quota: quota}, d); s != nil || e != api.ErrServerQuota {
				t.Errorf("quota %d: %d", quota, e)
			}
		}
	}
	turned := bytes.Clone(snap)
	turned[20] ^= 1
	for _, bad := range [][]byte{[]byte("x"), {0}, snap[:len(snap)-1], append(bytes.Clone(snap), 0), turned, []byte("LARDER01")} {
		if s, e := server.Open(api.Config{Quota: 1000}, api.Disk{Snap: bad}); s != nil || e != api.ErrServerDisk {
			t.Errorf("a snapshot of %d bytes: %d", len(bad), e)
		}
	}
	// What it holds costs 24 + 3 + 252.
	for quota, want := range map[int]api.Errno{278: api.ErrServerDisk, 279: api.OK} {
		if s, e := server.Open(api.Config{Quota: quota}, api.Disk{Snap: snap}); (s != nil) != (want == api.OK) || e != want {
			t.Errorf("quota %d: %d", quota, e)
		}
	}
}

// records are so many records from a number on: the one of number n sets key n to n, at the reading 10n.
func records(from, to int) []byte {
	var log []byte
	for n := from; n <= to; n++ {
		text := []byte(fmt.Sprint(n))
		line, _ := record.Line(api.Entry{Seq: int64(n), Now: uint64(10 * n), Group: []api.Act{{Args: [][]byte{[]byte("SET"), text, text}}}})
		log = append(log, line...)
	}
	return log
}

// said are what wantDisk calls the records of these numbers.
func said(from, to int) []string {
	var all []string
	for n := from; n <= to; n++ {
		all = append(all, fmt.Sprintf("%d@%d 0[SET %d %d]", n, 10*n, n, n))
	}
	return all
}

// snapshotOf is a snapshot that holds what the first n records have set.
func snapshotOf(t *testing.T, n int) []byte {
	t.Helper()
	s := opened(t, 1000, api.Disk{Log: records(1, n)})
	return []byte(picture(t, s))
}

func TestP20_2_WhatALogBrings(t *testing.T) {
	whole := records(1, 6)
	turned := bytes.Clone(whole)
	turned[len(records(1, 4))+30] ^= 4
	for _, c := range []struct {
		name string
		snap int // the number of the snapshot; 0: none
		log  []byte
		from int // the records that are kept
		to   int
		last int
	}{
		{"nothing", 0, nil, 1, 0, 0},
		{"a log", 0, whole, 1, 6, 6},
		{"a torn log", 0, whole[:len(whole)-1], 1, 5, 5},
		{"a log torn in its first record", 0, whole[:20], 1, 0, 0},
		{"zeros behind a log", 0, append(bytes.Clone(whole), make([]byte, 100)...), 1, 6, 6},
		{"a damaged log", 0, turned, 1, 4, 4},
		{"a gap in a log", 0, append(records(1, 3), records(5, 6)...), 1, 3, 3},
		{"a log that begins too late", 0, records(2, 6), 1, 0, 0},
		{"no log at all, but other bytes", 0, []byte("nonsense"), 1, 0, 0},
		{"a snapshot", 3, nil, 1, 0, 3},
		{"the log behind a snapshot", 3, records(4, 6), 4, 6, 6},
		{"a log that begins ahead of a snapshot", 3, whole, 4, 6, 6},
		{"a log that ends with a snapshot", 3, records(2, 3), 1, 0, 3},
		{"a log that ends ahead of a snapshot", 3, records(1, 2), 1, 0, 3},
		{"a log that begins too late behind a snapshot", 3, records(5, 6), 1, 0, 3},
		{"a torn log behind a snapshot", 3, records(2, 5)[:len(records(2, 5))-3], 4, 4, 4},
		{"a log that is torn ahead of a snapshot", 3, records(1, 2)[:len(records(1, 2))-3], 1, 0, 3},
	} {
		t.Run(c.name, func(t *testing.T) {
			d := api.Disk{Log: c.log, Synced: 12345}
			if c.snap > 0 {
				d.Snap = snapshotOf(t, c.snap)
			}
			s := opened(t, 1000, d)
			if !bytes.Equal(s.Disk().Snap, d.Snap) {
				t.Error("the snapshot is another")
			}
			kept := said(c.from, c.to)
			wantDisk(t, s, c.snap > 0, len(kept), kept...)
			clock := 10 * c.last
			want(t, s, step(0, "0:DBSIZE|TIME|"), fmt.Sprintf("0::%d|*2|$1|0|$%d|%d|", c.last, len(fmt.Sprint(clock*1000)), clock*1000))
			want(t, s, step(0, "0:DEL 1|SET n 1|"), fmt.Sprintf("0::%d|+OK|", min(c.last, 1)))
			if c.last > 0 {
				kept = append(kept, fmt.Sprintf("%d@%d 0[DEL 1]", c.last+1, clock))
				c.last++
			}
			kept = append(kept, fmt.Sprintf("%d@%d 0[SET n 1]", c.last+1, clock))
			wantDisk(t, s, c.snap > 0, len(said(c.from, c.to)), kept...)
		})
	}
}

// TestP20_2_TheLastNumber: behind it there is no entry any more, but commands are carried out.
func TestP20_2_TheLastNumber(t *testing.T) {
	s := made(t, 1000)
	want(t, s, step(5, "0:SET a 1|SAVE|"), "0:+OK|+OK|")
	held, _, e := record.Load(1000, seed, s.Disk().Snap)
	if e != api.OK {
		t.Fatal(e)
	}
	o := opened(t, 1000, api.Disk{Snap: record.Dump(held, math.MaxInt64-1)})
	want(t, o, step(5, "0:SET a 2|SET a 3|GET a|"), "0:+OK|+OK|$1|3|")
	wantDisk(t, o, true, 0, "9223372036854775807@5 0[SET a 2]")
	want(t, opened(t, 1000, o.Disk()), step(5, "0:GET a|"), "0:$1|2|")
}

func TestP20_2_ConnectionsAreFresh(t *testing.T) {
	s := made(t, 1000)
	want(t, s, step(0, "0:SET a 1|SELECT 1|MULTI|", "1:SUBSCRIBE c|", "2:BLPOP q 0|PING|", "3:QUIT|", "4:*x", "5:*1|$4|PI"), "0:+OK|+OK|+OK| 1:*3|$9|subscribe|$1|c|:1| 3:+OK| 4:-ERR Protocol error|")
	o := opened(t, 1000, s.Disk())
	want(t, o, step(0, "0:GET a|", "1:GET a|", "2:GET a|", "3:GET a|", "4:GET a|", "5:GET a|", "0:PUBLISH c m|RPUSH q e|"), "0:$1|1|:0|:1| 1:$1|1| 2:$1|1| 3:$1|1| 4:$1|1| 5:$1|1|")
}
