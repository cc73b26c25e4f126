package record_test

import (
	"bytes"
	"slices"
	"testing"

	"larder/api"
	"larder/record"
)

// overwrite writes over bytes and their spare room.
func overwrite(b []byte) {
	b = b[:cap(b)]
	for i := range b {
		b[i] = 0xee
	}
}

// roomy is bytes with others behind their end.
func roomy(b []byte) (given, whole []byte) {
	whole = append(bytes.Clone(b), "spare room"...)
	return whole[:len(b)], whole
}

func TestP16_12_Line(t *testing.T) {
	e := entry(3, 9, "@1 SET a \"some\\x20text\"", "GET a")
	want := line(t, e)
	// One block of memory, with spare room behind each argument and each list.
	block := []byte("@@SET##a##some text##GET##a##")
	was := bytes.Clone(block)
	spare := api.Act{DB: 3, Args: args("spare")}
	given := []api.Act{
		{DB: 1, Args: [][]byte{block[2:5], block[7:8], block[10:19], []byte("spare")}[:3]},
		{DB: 0, Args: [][]byte{block[21:24], block[26:27], []byte("spare")}[:2]},
		spare,
	}
	got := line(t, api.Entry{Seq: 3, Now: 9, Group: given[:2]})
	again := line(t, api.Entry{Seq: 3, Now: 9, Group: given[:2]})
	if !bytes.Equal(got, want) || !bytes.Equal(block, was) || string(given[0].Args[:4][3]) != "spare" || string(given[2].Args[0]) != "spare" || given[2].DB != 3 {
		t.Errorf("%q, the arguments are %q", got, block)
	}
	overwrite(block)
	overwrite(again)
	if !bytes.Equal(got, want) {
		t.Errorf("the record shares memory: %q", got)
	}
	overwrite(got)
	if !bytes.Equal(line(t, e), want) {
		t.Error("a record is kept")
	}
}

// spoilEntry writes over all that an entry holds, and over its spare room.
func spoilEntry(e *api.Entry) {
	for _, a := range e.Group[:cap(e.Group)] {
		for _, arg := range a.Args[:cap(a.Args)] {
			overwrite(arg)
		}
		clear(a.Args[:cap(a.Args)])
	}
	clear(e.Group[:cap(e.Group)])
	*e = api.Entry{}
}

func TestP16_12_Read(t *testing.T) {
	entries := someEntries()
	log, _ := row(t, entries...)
	given, whole := roomy(log)
	was := bytes.Clone(whole)
	got, end := record.Read(given)
	again, _ := record.Read(given)
	if !bytes.Equal(whole, was) || end != len(log) {
		t.Fatal("the log is changed")
	}
	overwrite(whole)
	for i := range got {
		spoilEntry(&again[i])
		for j := i; j < len(got); j++ {
			if bodyOf(got[j]) != bodyOf(entries[j]) {
				t.Errorf("entry %d shares memory", j)
			}
		}
		// Within an entry: one argument after the other, then the whole.
		for k, a := range got[i].Group {
			for l := range a.Args {
				overwrite(a.Args[l])
				a.Args[l] = entries[i].Group[k].Args[l]
				if bodyOf(got[i]) != bodyOf(entries[i]) {
					t.Errorf("entry %d, command %d: argument %d shares memory", i, k, l)
				}
			}
			clear(a.Args[len(a.Args):cap(a.Args)])
		}
		clear(got[i].Group[len(got[i].Group):cap(got[i].Group)])
	}
	for j := range got {
		if bodyOf(got[j]) != bodyOf(entries[j]) {
			t.Errorf("entry %d shares memory", j)
		}
	}
}

func TestP16_12_Dump(t *testing.T) {
	s := given(t, 4000, 7, rich...)
	want := richShot().bytes()
	got, again := record.Dump(s, 9), record.Dump(s, 9)
	overwrite(again)
	if !bytes.Equal(got, want) {
		t.Error("two snapshots share memory")
	}
	overwrite(got)
	wantDump(t, "behind it", s, 9, want)
}

func TestP16_12_Load(t *testing.T) {
	want := richShot().bytes()
	snap, whole := roomy(want)
	was := bytes.Clone(whole)
	s, seq := loaded(t, 4000, snap)
	if !bytes.Equal(whole, was) {
		t.Error("the snapshot is changed")
	}
	overwrite(whole)
	wantDump(t, "its memory is another's", s, seq, want)
	give(t, s, 7, "APPEND k x", "RPUSH l x", "SREM s m", "ZADD z 7 x", "HSET h x y")
	overwrite(record.Dump(s, 1))
	if !bytes.Equal(whole, bytes.Repeat([]byte{0xee}, len(whole))) {
		t.Error("commands have written into the snapshot")
	}
}

func TestP16_12_Recover(t *testing.T) {
	snap, wholeSnap := roomy(richShot().bytes())
	records := slices.Concat(line(t, entry(9, 1, "FLUSHALL")), line(t, entry(10, 8, "APPEND k xyz", "RPUSH l x \"\"", "@1 HSET h field value")), line(t, entry(11, 9, "@1 SET other text")), []byte("x"))
	log, wholeLog := roomy(records)
	wasSnap, wasLog := bytes.Clone(wholeSnap), bytes.Clone(wholeLog)
	s := recovered(t, "memory", 4000, snap, log, 11, len(log)-1)
	want := picture(s)
	if !bytes.Equal(wholeSnap, wasSnap) || !bytes.Equal(wholeLog, wasLog) {
		t.Error("the snapshot or the log is changed")
	}
	twin := recovered(t, "memory", 4000, snap, log, 11, len(log)-1)
	give(t, twin, 9, "FLUSHALL")
	overwrite(wholeSnap)
	overwrite(wholeLog)
	if picture(s) != want {
		t.Errorf("%s want %s", picture(s), want)
	}
}

// TestR3_Empty: nil and empty bytes are the same.
func TestR3_Empty(t *testing.T) {
	for _, b := range [][]byte{nil, {}, make([]byte, 0, 99)} {
		if l, n := record.Read(b); len(l) != 0 || n != 0 {
			t.Errorf("Read: %v, %d", l, n)
		}
		if s, seq := loaded(t, 256, b); seq != 0 || picture(s) != "" {
			t.Errorf("Load: %d", seq)
		}
		recovered(t, "nothing", 256, b, b, 0, 0)
	}
}
