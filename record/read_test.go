package record_test

import (
	"bytes"
	"encoding/binary"
	"math/rand"
	"slices"
	"strings"
	"testing"

	"larder/api"
	"larder/record"
	"larder/word"
)

func wantRead(t *testing.T, what string, log []byte, want []api.Entry, end int) {
	t.Helper()
	got, n := record.Read(log)
	same := slices.EqualFunc(got, want, func(a, b api.Entry) bool { return bodyOf(a) == bodyOf(b) })
	if n != end || !same {
		t.Errorf("%s: %d entries, %d bytes, want %d, %d", what, len(got), n, len(want), end)
	}
}

func TestP16_4_Examples(t *testing.T) {
	one := entry(1, 5, "PING")
	first := line(t, one)
	behind := func(e api.Entry) []byte { return append(bytes.Clone(first), line(t, e)...) }
	two := behind(entry(2, 5, "B"))
	wantRead(t, "nothing", nil, nil, 0)
	wantRead(t, "nothing", []byte{}, nil, 0)
	wantRead(t, "a last byte is missing", two[:len(two)-1], []api.Entry{one}, 59)
	wantRead(t, "Seq 3", behind(entry(3, 5, "B")), []api.Entry{one}, 59)
	wantRead(t, "Seq 1", behind(one), []api.Entry{one}, 59)
	wantRead(t, "Now 4", behind(entry(2, 4, "B")), []api.Entry{one}, 59)
	wantRead(t, "Now 5", two, []api.Entry{one, entry(2, 5, "B")}, 59+56)
	for i := range 59 * 8 {
		turned := bytes.Clone(two)
		turned[i/8] ^= 1 << (i % 8)
		wantRead(t, "a bit turned in the first", turned, nil, 0)
	}
	wantRead(t, "eight zeros", append(bytes.Clone(first), make([]byte, 8)...), []api.Entry{one}, 59)
	wantRead(t, "a thousand zeros", append(bytes.Clone(first), make([]byte, 1000)...), []api.Entry{one}, 59)
}

// TestP16_4_TheRow: which record may follow which.
func TestP16_4_TheRow(t *testing.T) {
	a := "@1 SET a 1"
	for _, c := range []struct {
		what    string
		entries []api.Entry
		n       int
	}{
		{"from 1 on", []api.Entry{entry(1, 0, a), entry(2, 0, a, a), entry(3, 9, "B")}, 3},
		{"from 77 on", []api.Entry{entry(77, latest, a), entry(78, latest, a)}, 2},
		{"the last numbers", []api.Entry{entry(greatest-1, 3, a), entry(greatest, 4, a)}, 2},
		{"no number behind the last one", []api.Entry{entry(greatest, 3, a), entry(1, 4, a)}, 1},
		{"a number left out", []api.Entry{entry(1, 3, a), entry(3, 4, a), entry(4, 4, a)}, 1},
		{"a number twice", []api.Entry{entry(5, 3, a), entry(6, 4, a), entry(6, 4, a), entry(7, 4, a)}, 2},
		{"back by one", []api.Entry{entry(5, 3, a), entry(4, 4, a)}, 1},
		{"the clock turned back", []api.Entry{entry(5, 3, a), entry(6, 4, a), entry(7, 3, a), entry(8, 5, a)}, 2},
		{"the clock turned back to the first's", []api.Entry{entry(5, 3, a), entry(6, 9, a), entry(7, 3, a)}, 2},
	} {
		var log []byte
		end := 0
		for i, e := range c.entries {
			log = append(log, line(t, e)...)
			if i < c.n {
				end = len(log)
			}
		}
		wantRead(t, c.what, log, c.entries[:c.n], end)
	}
}

// TestP16_4_WhatComesBehindIsNotLookedAt: the row ends at the first place at which no whole record begins.
func TestP16_4_WhatComesBehindIsNotLookedAt(t *testing.T) {
	one, two := entry(1, 5, "PING"), entry(2, 6, "B")
	a, b := line(t, one), line(t, two)
	for _, between := range []string{"\x00", "\xaa", "\x55", "x", string(a[:58]), string(b[1:]), string(b[:len(b)-1]), strings.Repeat("\x00", 59)} {
		log := slices.Concat(a, []byte(between), b)
		wantRead(t, "something between", log, []api.Entry{one}, 59)
		wantRead(t, "something ahead", log[59:], nil, 0)
	}
	wantRead(t, "whole", slices.Concat(a, b), []api.Entry{one, two}, 59+len(b))
}

// plainRead is a second reading of the log: how many entries, how many bytes.
func plainRead(log []byte) (n, end int) {
	seq, now := uint64(0), uint64(0)
	for {
		size, s, c := plainRecord(log[end:])
		if size == 0 || n > 0 && (s != seq+1 || c < now) {
			return n, end
		}
		n, end, seq, now = n+1, end+size, s, c
	}
}

// plainRecord tells how long the record is with which b begins (0: none), its number and its clock.
func plainRecord(b []byte) (size int, seq, now uint64) {
	if len(b) < 17 || b[0] != 0xaa || binary.BigEndian.Uint64(b[9:]) != word.Sum(b[:9]) {
		return 0, 0, 0
	}
	long := binary.BigEndian.Uint64(b[1:])
	if len(b) < 26 || long > uint64(len(b)-26) {
		return 0, 0, 0
	}
	body, tail := b[17:17+long], b[17+long:]
	if binary.BigEndian.Uint64(tail) != word.Sum(body) || tail[8] != 0x55 || !plainBody(body) {
		return 0, 0, 0
	}
	return len(body) + 26, binary.BigEndian.Uint64(body), binary.BigEndian.Uint64(body[8:])
}

// plainBody tells whether bytes are the body of an entry that may be written. What is too short runs out of its slices.
func plainBody(b []byte) (ok bool) {
	defer func() {
		if recover() != nil {
			ok = false
		}
	}()
	number := func() uint32 {
		n := binary.BigEndian.Uint32(b)
		b = b[4:]
		return n
	}
	seq, now := binary.BigEndian.Uint64(b), binary.BigEndian.Uint64(b[8:])
	b = b[16:]
	commands := number()
	if seq < 1 || seq > greatest || now > latest || commands < 1 || commands > 64 {
		return false
	}
	for range commands {
		db := b[0]
		b = b[1:]
		arguments := number()
		if db > 3 || arguments < 1 || arguments > 128 {
			return false
		}
		for range arguments {
			n := number()
			if n > 4096 {
				return false
			}
			b = b[n:len(b):len(b)]
		}
	}
	return len(b) == 0
}

func wantAsPlain(t *testing.T, what string, log []byte) {
	t.Helper()
	n, end := plainRead(log)
	if l, got := record.Read(log); len(l) != n || got != end {
		t.Errorf("%s: %.200q: %d entries, %d bytes, want %d, %d", what, log, len(l), got, n, end)
	}
}

// spoilt gives bytes in which one thing is wrong, of many sorts.
func spoilt(b string, try func(string)) {
	for i := range b {
		for _, c := range []byte{b[i] ^ 1, b[i] ^ 0x80, b[i] + 1, b[i] - 1, 0, 1, 2, 5, 0x7f, 0xff} {
			try(b[:i] + string([]byte{c}) + b[i+1:])
		}
		try(b[:i] + b[i+1:])
		try(b[:i] + b[i:i+1] + b[i:])
		try(b[:i] + "\x00" + b[i:])
		try(b[:i])
		try(b[:i] + "\x00\x00\x00\x00" + b[i:])
		if i+4 < len(b) {
			try(b[:i] + "\xff\xff\xff\xff" + b[i+4:])
			try(b[:i] + "\x00\x00\x10\x01" + b[i+4:])
			try(b[:i] + b[i+4:])
		}
	}
	try(b + "\x00")
	try(b + b)
	try(b)
}

// TestP16_4_Forged: bodies of all sorts in records whose lengths and sums are right.
func TestP16_4_Forged(t *testing.T) {
	for _, e := range []api.Entry{entry(1, 5, "PING"), entry(256, latest, "@3 SET a b", "@1 X \"\"", "Y"), entry(greatest, 0, "A \"\" \"\"")} {
		var first []byte
		if e.Seq > 1 {
			first = line(t, api.Entry{Seq: e.Seq - 1, Now: e.Now, Group: e.Group})
		}
		spoilt(bodyOf(e), func(body string) {
			wantAsPlain(t, "a forged body", []byte(framed(body)))
			wantAsPlain(t, "a forged body behind another", append(bytes.Clone(first), framed(body)...))
		})
		spoilt(framed(bodyOf(e)), func(b string) { wantAsPlain(t, "a spoilt record", []byte(b)) })
	}
	for _, c := range bounds() {
		wantAsPlain(t, "a body at a bound", []byte(framed(bodyOf(c.e))))
	}
}

// TestP16_4_WrongLengths: the body's length tells of more or less than there is, up to what wraps round.
func TestP16_4_WrongLengths(t *testing.T) {
	body := bodyOf(entry(1, 5, "PING"))
	for _, n := range []uint64{0, 1, 32, 33, 34, 59, 1 << 31, 1 << 32, 1<<32 + 33, 1 << 62, 1<<63 - 1, 1 << 63, 1<<63 + 33, 1<<64 - 26, 1<<64 - 1} {
		head := "\xaa" + u8(n)
		log := []byte(head + sumOf(head) + body + sumOf(body) + "\x55")
		want := 0
		if n == 33 {
			want = 59
		}
		if l, end := record.Read(log); end != want || len(l) != want/59 {
			t.Errorf("length %d: %d entries, %d bytes", n, len(l), end)
		}
	}
}

// row is some records one behind the other, with the place at which each ends, ahead of them 0.
func row(t *testing.T, entries ...api.Entry) ([]byte, []int) {
	t.Helper()
	var log []byte
	ends := []int{0}
	for _, e := range entries {
		log = append(log, line(t, e)...)
		ends = append(ends, len(log))
	}
	return log, ends
}

func someEntries() []api.Entry {
	return []api.Entry{entry(3, 0, "A"), entry(4, 0, "@3 SET \"\\x00\\x00\\x00\" \"\\x00\\x00\"", "@2 DEL \"\""), entry(5, 70000, "PING", "B"), entry(6, latest, "\"\"")}
}

// before tells how many records end at or ahead of a place, and where the last of them ends.
func before(ends []int, at int) (n, end int) {
	for n+1 < len(ends) && ends[n+1] <= at {
		n++
	}
	return n, ends[n]
}

func TestP16_5_Cut(t *testing.T) {
	entries := someEntries()
	log, ends := row(t, entries...)
	for at := range len(log) + 1 {
		n, end := before(ends, at)
		for _, zeros := range []int{0, 1, 2, 7, 8, 9, 16, 17, 25, 26, 27, 64, len(log) - at, len(log), 1000} {
			cut := append(bytes.Clone(log[:at]), make([]byte, zeros)...)
			wantRead(t, "a cut log", cut, entries[:n], end)
		}
	}
}

func TestP16_5_TurnedBits(t *testing.T) {
	entries := someEntries()
	log, ends := row(t, entries...)
	r := rand.New(rand.NewSource(16))
	turn := func(at int, bits uint64) {
		turned := bytes.Clone(log)
		for i := range 64 {
			if p := at + i; bits>>(63-i)&1 == 1 && p < 8*len(log) {
				turned[p/8] ^= 0x80 >> (p % 8)
			}
		}
		n, end := before(ends, at/8)
		wantRead(t, "turned bits", turned, entries[:n], end)
	}
	for at := range 8 * len(log) {
		turn(at, 1<<63)
		turn(at, 1<<63|1)
		turn(at, 1<<64-1)
		turn(at, 1<<63|0x42F0E1EBA9EA3693>>1)
		for range 8 {
			turn(at, 1<<63|r.Uint64()>>r.Intn(64))
		}
	}
}

// TestR1_AnyLog: whatever the bytes are, Read ends, and reads no more than there is.
func TestR1_AnyLog(t *testing.T) {
	r := rand.New(rand.NewSource(1))
	entries := someEntries()
	log, _ := row(t, entries...)
	for range 20000 {
		b := bytes.Clone(log[:r.Intn(len(log)+1)])
		for range r.Intn(4) {
			if len(b) > 0 {
				b[r.Intn(len(b))] = byte(r.Intn(256))
			}
		}
		if r.Intn(4) == 0 {
			r.Read(b)
		}
		wantAsPlain(t, "any bytes", b)
	}
}
