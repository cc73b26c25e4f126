package server_test

import (
	"bytes"
	"fmt"
	"testing"

	"larder/api"
	"larder/record"
)

// seqOf is the number of a snapshot; 0 of none.
func seqOf(t *testing.T, snap []byte) int64 {
	t.Helper()
	_, seq, e := record.Load(api.MaxQuota, seed, snap)
	if e != api.OK {
		t.Fatalf("the snapshot: %d", e)
	}
	return seq
}

// wantBehind asks what a server holds that is opened with a snapshot and the beginning of a log: what the first one held behind the last entry that is there whole, or else the snapshot. It tells that entry's number.
func (p *plain) wantBehind(t *testing.T, quota int, snap, log []byte) int64 {
	t.Helper()
	s := opened(t, quota, api.Disk{Snap: snap, Log: log})
	last := seqOf(t, snap)
	behind := snap
	if len(snap) == 0 {
		behind = p.states[0]
	}
	at := ends(log)
	kept := log[:0]
	entries, _ := record.Read(log)
	for i, e := range entries {
		if e.Seq > last {
			kept = log[at[i]:at[len(at)-1]]
			last = entries[len(entries)-1].Seq
			behind = p.states[last]
			break
		}
	}
	if d := s.Disk(); !bytes.Equal(d.Snap, snap) || !bytes.Equal(d.Log, kept) || d.Synced != len(kept) {
		t.Fatalf("the disk of the opened server: %d %d %d, want %d %d", len(d.Snap), len(d.Log), d.Synced, len(snap), len(kept))
	}
	// What has come of several entries in one call is seen behind the last of them alone.
	if got := picture(t, s); behind != nil && got != string(behind) {
		t.Fatalf("behind entry %d it holds something else", last)
	}
	if seqOf(t, s.Disk().Snap) != last {
		t.Fatalf("the last entry is %d, want %d", seqOf(t, s.Disk().Snap), last)
	}
	return last
}

// ends are the places of a log where records end, and 0.
func ends(log []byte) []int {
	all := []int{0}
	entries, _ := record.Read(log)
	for _, e := range entries {
		line, _ := record.Line(e)
		all = append(all, all[len(all)-1]+len(line))
	}
	return all
}

// TestP20_8_BehindACrash: drawn scripts, crashes at drawn times, the log cut at all ends of records that are not safe, beside them, and anywhere.
func TestP20_8_BehindACrash(t *testing.T) {
	crashes := 0
	for n := range 40 {
		draw := playerOf(5000 + n)
		quota := quotaOf(n)
		events := draw.events(200)
		p := played(quota, events)
		s := made(t, quota)
		var disks []api.Disk
		for _, m := range draw.framed(events) {
			if m.sync {
				s.Sync()
			} else {
				s.Step(m.step)
			}
			if draw.chance(40) {
				disks = append(disks, s.Disk())
			}
		}
		for i, d := range append(disks, s.Disk()) {
			cuts := []int{d.Synced, len(d.Log)}
			for _, end := range ends(d.Log) {
				cuts = append(cuts, end-1, end, end+1)
			}
			for range 20 {
				cuts = append(cuts, d.Synced+draw.r.Intn(len(d.Log)-d.Synced+1))
			}
			for _, cut := range cuts {
				if cut < d.Synced || cut > len(d.Log) || draw.chance(2) {
					continue
				}
				p.wantBehind(t, quota, d.Snap, d.Log[:cut])
				crashes++
			}
			for _, later := range disks[min(i, len(disks)):] {
				// The later snapshot with the earlier log.
				if from := seqOf(t, later.Snap); from > seqOf(t, d.Snap) {
					if last := p.wantBehind(t, quota, later.Snap, d.Log); last != from {
						t.Fatalf("script %d: number %d, want the snapshot's, %d", n, last, from)
					}
				}
			}
		}
	}
	if crashes < 1000 {
		t.Errorf("the scripts ask too little: %d", crashes)
	}
}

// TestP20_8_GoingOn: a server that goes on behind a crash, and behind a further one, tells and leaves what one does that has never stopped. (Every connection is hung up behind its command, so that a crash takes nothing from it.)
func TestP20_8_GoingOn(t *testing.T) {
	lines := append(linesOf(onValues), "SAVE")
	for n := range 20 {
		draw := playerOf(6000 + n)
		quota := quotaOf(n)
		s, twin := made(t, quota), made(t, quota)
		now := uint64(0)
		for i := range 200 {
			now += uint64(draw.r.Intn(3))
			x := api.Step{Now: now, Chunks: []api.Chunk{{Data: draw.raw(event{args: draw.command(lines)}), Hang: true}}}
			if got, want := told(s.Step(x)), told(twin.Step(x)); got != want {
				t.Fatalf("script %d: %s: %.200q, want %.200q", n, saidStep(x), got, want)
			}
			if draw.chance(3) {
				d := s.Disk()
				d.Log = append(d.Log, make([]byte, draw.r.Intn(3))...)
				s = opened(t, quota, d)
			}
			a, b := s.Disk(), twin.Disk()
			if !bytes.Equal(a.Snap, b.Snap) || !bytes.Equal(a.Log, b.Log) {
				t.Fatalf("script %d, step %d: the disk is another", n, i)
			}
		}
	}
}

// TestP20_8_ReadingsOfReadsAreForgotten: the clock behind a crash is the last entry's.
func TestP20_8_ReadingsOfReadsAreForgotten(t *testing.T) {
	s := made(t, 1000)
	want(t, s, step(5, "0:SET a 1 PX 10|"), "0:+OK|")
	want(t, s, step(20, "0:GET a|"), "0:$-1|")
	o := opened(t, 1000, s.Disk())
	want(t, o, step(0, "0:TIME|PTTL a|"), "0:*2|$1|0|$4|5000|:10|")
	want(t, o, step(20, "0:EXISTS a|SET b 1|"), "0::0|+OK|")
	o = opened(t, 1000, o.Disk())
	want(t, o, step(0, "0:TIME|EXISTS a b|"), "0:*2|$1|0|$5|20000|:1|")
	// A snapshot has its own reading.
	want(t, s, step(30, "0:SAVE|"), "0:+OK|")
	want(t, opened(t, 1000, s.Disk()), step(0, "0:TIME|"), "0:*2|$1|0|$5|30000|")
}

// TestP20_9_AllOrNothing: the log is cut at every byte; what a transaction has changed is there as a whole or not at all.
func TestP20_9_AllOrNothing(t *testing.T) {
	s := made(t, 1000)
	want(t, s, step(1, "0:MSET a 0 b 0|MULTI|INCR a|SET l x|RPUSH l y|INCR b|SELECT 2|SET a 5|EXEC|", "1:MULTI|INCR a|INCR b|DEL l|EXEC|"), "0:+OK|+OK|+QUEUED|+QUEUED|+QUEUED|+QUEUED|+QUEUED|+QUEUED|*6|:1|+OK|-WRONGTYPE another kind of value|:1|+OK|+OK| 1:+OK|+QUEUED|+QUEUED|+QUEUED|*3|:2|:2|:1|")
	d := s.Disk()
	at := ends(d.Log)
	if len(at) != 4 {
		t.Fatalf("%d records", len(at)-1)
	}
	states := []string{"0:*2|$-1|$-1|:0|+OK|:0|", "0:*2|$1|0|$1|0|:0|+OK|:0|", "0:*2|$1|1|$1|1|:1|+OK|:1|", "0:*2|$1|2|$1|2|:0|+OK|:1|"}
	for cut := range len(d.Log) + 1 {
		n := 0
		for n+1 < len(at) && at[n+1] <= cut {
			n++
		}
		want(t, opened(t, 1000, api.Disk{Log: d.Log[:cut]}), step(0, "0:MGET a b|EXISTS l|SELECT 2|EXISTS a|"), states[n])
	}
}

// TestP20_9_NothingBetween: those who wait are served behind EXEC, whatever lay there between; other connections' commands come ahead of it or behind it.
func TestP20_9_NothingBetween(t *testing.T) {
	s := made(t, 1000)
	want(t, s, step(0, "1:BLPOP q 0|", "2:BLPOP q 0|LLEN q|"), "")
	want(t, s, step(0, "0:MULTI|RPUSH q a b c|LPOP q|", "3:SET k 3|", "0:RPUSH q d|LLEN q|GET k|EX", "3:SET k 4|RPUSH r x|", "0:EC|"), "0:+OK|+QUEUED|+QUEUED|+QUEUED|+QUEUED|+QUEUED|*5|:3|$1|a|:3|:3|$1|4| 1:*2|$1|q|$1|b| 2:*2|$1|q|$1|c|:1| 3:+OK|+OK|:1|")
	wantDisk(t, s, false, 0, "1@0 0[SET k 3]", "2@0 0[SET k 4]", "3@0 0[RPUSH r x]", "4@0 0[RPUSH q a b c] 0[LPOP q] 0[RPUSH q d]", "5@0 0[LPOP q]", "6@0 0[LPOP q]")
	// A transaction that is hung up, broken, or disturbed does nothing.
	want(t, s, step(0, "4:MULTI|SET k 5|", "4!", "5:MULTI|SET k 5|*x", "6:WATCH k|MULTI|SET k 5|", "0:SET k 6|", "6:EXEC|GET k|"), "0:+OK| 4:+OK|+QUEUED| 5:+OK|+QUEUED|-ERR Protocol error| 6:+OK|+OK|+QUEUED|*-1|$1|6|")
}

// TestP20_9_GreatTransactions: each command costs 24 + 2 + 512 + 2 + 63, so not all are carried out. As many commands as may be queued, with arguments as long as may be, are one record.
func TestP20_9_GreatTransactions(t *testing.T) {
	s := made(t, api.MaxQuota)
	x := step(0, "0:MULTI|")
	for i := range api.MaxQueue {
		x.Chunks = append(x.Chunks, chunk("0:"+long(fmt.Sprintf("%02d%s", i, bytes.Repeat([]byte("k"), api.MaxText-2)), 500)))
	}
	x.Chunks = append(x.Chunks, chunk("0:PING|"), chunk("0:EXEC|"))
	s.Step(x)
	wantDisk(t, s, false, 0)
	x.Chunks = append(x.Chunks[:api.MaxQueue/2], chunk("0:EXEC|"))
	s.Step(x)
	d := s.Disk()
	if entries, n := record.Read(d.Log); len(entries) != 1 || n != len(d.Log) || len(entries[0].Group) != 27 {
		t.Errorf("%d entries of %d commands", len(entries), len(entries[0].Group))
	}
	want(t, opened(t, api.MaxQuota, d), step(0, "0:DBSIZE|"), "0::27|")
	want(t, opened(t, api.MaxQuota, api.Disk{Log: d.Log[:len(d.Log)-1]}), step(0, "0:DBSIZE|"), "0::0|")
}
