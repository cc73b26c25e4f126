package record_test

import (
	"bytes"
	"fmt"
	"slices"
	"testing"
	"time"

	"larder/api"
	"larder/record"
)

const patience = 10 * time.Second

// inTime asks that what is done takes about as long as its bytes are many.
func inTime(t *testing.T, what string, do func()) {
	t.Helper()
	start := time.Now()
	do()
	if took := time.Since(start); took > patience {
		t.Errorf("%s took %v", what, took)
	}
}

func TestLongLogs(t *testing.T) {
	const times = 50000
	var log []byte
	for i := range int64(times) {
		log = append(log, line(t, entry(i+1, uint64(i), fmt.Sprintf("SET k %d", i)))...)
	}
	inTime(t, "Read", func() {
		if l, n := record.Read(log); len(l) != times || n != len(log) {
			t.Errorf("%d entries, %d bytes", len(l), n)
		}
	})
	inTime(t, "Recover", func() { recovered(t, "a long log", 1000, nil, log, times, len(log)) })
	inTime(t, "Read of a record with zeros behind it", func() {
		end := len(line(t, entry(1, 0, "SET k 0")))
		if l, n := record.Read(append(bytes.Clone(log[:end]), make([]byte, 1<<26)...)); len(l) != 1 || n != end {
			t.Errorf("%d entries, %d bytes", len(l), n)
		}
	})
}

// TestGreatNumbers: of commands, arguments, keys, elements of which there are none: no memory is laid out for them.
func TestGreatNumbers(t *testing.T) {
	most := "\xff\xff\xff\xff"
	inTime(t, "great numbers", func() {
		for range 1000 {
			for _, body := range []string{u8(1) + u8(1) + most, u8(1) + u8(1) + u4(1) + "\x00" + most, u8(1) + u8(1) + u4(1) + "\x00" + u4(1) + most, u8(1) + u8(1) + u4(64) + "\x00" + u4(128) + most + "x"} {
				if l, n := record.Read([]byte(framed(body))); len(l) != 0 || n != 0 {
					t.Fatalf("%d entries, %d bytes", len(l), n)
				}
			}
			key := "LARDER01" + u8(0) + u8(0) + u4(1) + text("k") + u8(0)
			for _, open := range []string{"LARDER01" + u8(0) + u8(0) + most, key[:28] + most, key + "\x01" + most, key + "\x02" + most, key + "\x02" + u4(1) + most, key + "\x03" + most, key + "\x04" + most, key + "\x05" + most} {
				if s, _, e := record.Load(256, seed, closed(open)); s != nil || e != api.ErrRecordSnap {
					t.Fatalf("%q: %d", open, e)
				}
			}
		}
	})
}

func TestLongSnapshots(t *testing.T) {
	full := shot{keys: [4][]held{{{"k", 0, 2, counted(slices.Repeat([]string{"x"}, 1800)...)}}}}
	inTime(t, "Load and Dump of a full space", func() {
		for range 100 {
			s, seq := loaded(t, plenty, full.bytes())
			wantDump(t, "a full space", s, seq, full.bytes())
		}
	})
	far := shot{keys: [4][]held{{{"k", 0, 2, counted(make([]string, 1<<21)...)}}}}
	snap := far.bytes()
	inTime(t, "Load of what no heap could hold", func() { wantRefused(t, "far too much", plenty, snap, api.ErrRecordRoom) })
	inTime(t, "Load of long bytes that are none", func() {
		wantNone(t, "long", append(snap, 0))
		wantNone(t, "zeros", make([]byte, 1<<26))
	})
}
