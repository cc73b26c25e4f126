package record_test

import (
	"bytes"
	"encoding/binary"
	"math/rand"
	"slices"
	"strings"
	"testing"

	"larder/api"
	"larder/record"
	"larder/word"
)

const plenty = 16384

func wantNone(t *testing.T, what string, snap []byte) {
	t.Helper()
	wantRefused(t, what, plenty, snap, api.ErrRecordSnap)
}

// wantTaken asks that a snapshot is one: what it tells is there, and told again.
func wantTaken(t *testing.T, what string, snap []byte) {
	t.Helper()
	s, seq, e := record.Load(plenty, seed, snap)
	if e != api.OK {
		t.Errorf("%s: Load: %d", what, e)
		return
	}
	wantDump(t, what, s, seq, snap)
}

// one is the shot of a single key.
func one(h held) shot { return shot{9, 7, [4][]held{1: {h}}} }

// two is the shot of two keys of one database.
func two(first, second string) shot {
	return shot{9, 7, [4][]held{2: {{first, 0, 1, text("x")}, {second, 0, 1, text("y")}}}}
}

func long(n int) string { return strings.Repeat("w", n) }

func TestP16_7_Snapshots(t *testing.T) {
	for what, x := range map[string]shot{
		"nothing":                     {},
		"all kinds":                   richShot(),
		"the greatest number":         {seq: greatest},
		"the last time":               {clock: latest},
		"a deadline":                  one(held{"k", 8, 1, text("x")}),
		"the last deadline":           {0, latest - 1, [4][]held{{{"k", latest, 1, text("x")}}}},
		"an empty key":                one(held{"", 0, 1, text("x")}),
		"an empty text":               one(held{"k", 0, 1, text("")}),
		"the longest key and text":    one(held{long(4096), 0, 1, text(long(4096))}),
		"the longest element":         one(held{"k", 0, 2, counted("", long(4096), "")}),
		"the longest field and value": one(held{"k", 0, 3, pairs("a", long(4096), long(4096), "")}),
		"the longest member":          one(held{"k", 0, 4, counted("a", long(4096))}),
		"the longest ranked member":   one(held{"k", 0, 5, ranked("-3", long(4096), "-3", long(4096)[1:]+"x")}),
		"an element twice":            one(held{"k", 0, 2, counted("b", "a", "b", "b")}),
		"a value twice":               one(held{"k", 0, 3, pairs("a", "x", "b", "x")}),
		"a score twice":               one(held{"k", 0, 5, ranked("5", "a", "5", "b")}),
		"members against their order": one(held{"k", 0, 5, ranked("5", "b", "6", "a")}),
		"least and greatest score":    one(held{"k", 0, 5, ranked("-9223372036854775808", "b", "9223372036854775807", "a")}),
		"one continues the other":     two("a", "a\x00"),
		"empty ahead of all":          two("", "\x00"),
		"bytes above 127":             two("\x7f", "\x80"),
		"one key in all databases":    {0, 0, [4][]held{{{"k", 0, 1, text("x")}}, {{"k", 5, 2, counted("x")}}, {{"k", 0, 4, counted("x")}}, {{"k", 0, 3, pairs("x", "y")}}}},
	} {
		wantTaken(t, what, x.bytes())
	}
}

func TestP16_7_NoSnapshots(t *testing.T) {
	for what, x := range map[string]shot{
		"a number below 0":                {seq: 1 << 63},
		"the number -1":                   {seq: 1<<64 - 1},
		"a clock above MaxTime":           {clock: latest + 1},
		"the greatest clock":              {clock: 1<<64 - 1},
		"a deadline at the clock":         one(held{"k", 7, 1, text("x")}),
		"a deadline below the clock":      one(held{"k", 1, 1, text("x")}),
		"a deadline above MaxTime":        one(held{"k", latest + 1, 1, text("x")}),
		"the greatest deadline":           one(held{"k", 1<<64 - 1, 1, text("x")}),
		"a deadline at the last time":     {0, latest, [4][]held{{{"k", latest, 1, text("x")}}}},
		"a key too long":                  one(held{long(4097), 0, 1, text("x")}),
		"a text too long":                 one(held{"k", 0, 1, text(long(4097))}),
		"an element too long":             one(held{"k", 0, 2, counted("x", long(4097))}),
		"a field too long":                one(held{"k", 0, 3, pairs(long(4097), "x")}),
		"a field's value too long":        one(held{"k", 0, 3, pairs("x", long(4097))}),
		"a member too long":               one(held{"k", 0, 4, counted(long(4097))}),
		"a ranked member too long":        one(held{"k", 0, 5, ranked("1", long(4097))}),
		"kind 0":                          one(held{"k", 0, 0, ""}),
		"kind 0 with a text":              one(held{"k", 0, 0, text("x")}),
		"kind 6":                          one(held{"k", 0, 6, counted("x")}),
		"kind 255":                        one(held{"k", 0, 255, text("x")}),
		"an empty list":                   one(held{"k", 0, 2, counted()}),
		"an empty hash":                   one(held{"k", 0, 3, counted()}),
		"an empty set":                    one(held{"k", 0, 4, counted()}),
		"an empty ranked set":             one(held{"k", 0, 5, counted()}),
		"a key twice":                     two("a", "a"),
		"the empty key twice":             two("", ""),
		"keys not in order":               two("b", "a"),
		"a continuation ahead":            two("aa", "a"),
		"bytes above 127 ahead":           two("\x80", "\x7f"),
		"a field twice":                   one(held{"k", 0, 3, pairs("a", "1", "b", "2", "b", "3")}),
		"a field and its value twice":     one(held{"k", 0, 3, pairs("a", "1", "a", "1")}),
		"fields not in order":             one(held{"k", 0, 3, pairs("a", "1", "c", "2", "b", "3")}),
		"a member twice":                  one(held{"k", 0, 4, counted("a", "b", "b")}),
		"members not in order":            one(held{"k", 0, 4, counted("b", "a")}),
		"the empty member behind another": one(held{"k", 0, 4, counted("a", "")}),
		"a ranked member twice":           one(held{"k", 0, 5, ranked("1", "a", "1", "a")}),
		"a ranked member at two scores":   one(held{"k", 0, 5, ranked("1", "a", "2", "a")}),
		"at two scores, far apart":        one(held{"k", 0, 5, ranked("-7", "b", "1", "a", "2", "c", "3", "d", "9", "b")}),
		"ranked members not in order":     one(held{"k", 0, 5, ranked("1", "b", "1", "a")}),
		"scores not in order":             one(held{"k", 0, 5, ranked("2", "a", "1", "b")}),
		"scores below 0 not in order":     one(held{"k", 0, 5, ranked("1", "a", "-1", "b")}),
	} {
		wantNone(t, what, x.bytes())
		// In another database, behind a right key, the fault is the same.
		for db := range 4 {
			y := richShot()
			for _, h := range x.keys[1] {
				h.key += strings.Repeat("~", 3*min(1, len(h.key)))
				y.keys[db] = append(slices.Clone(y.keys[db]), h)
			}
			if len(x.keys[1]) > 0 {
				wantNone(t, what, y.bytes())
			}
		}
	}
}

// TestP16_7_Bytes: what is no snapshot by its bytes, whatever they tell.
func TestP16_7_Bytes(t *testing.T) {
	open := richShot().open()
	snap := richShot().bytes()
	for i := range snap {
		wantNone(t, "cut", snap[:max(i, 1)])
		wantNone(t, "cut, with zeros", append(bytes.Clone(snap[:i]), make([]byte, len(snap)-i+1)...))
		if i < len(open) {
			wantNone(t, "cut, with a right sum", closed(open[:i]))
		}
	}
	for i := range 8 * len(snap) {
		turned := bytes.Clone(snap)
		turned[i/8] ^= 1 << (i % 8)
		if s, _, e := record.Load(plenty, seed, turned); s != nil || e != api.ErrRecordSnap {
			t.Errorf("bit %d turned: %d", i, e)
		}
	}
	for what, b := range map[string][]byte{
		"one byte":                    {0},
		"a byte behind it":            append(bytes.Clone(snap), 0),
		"a byte behind, a right sum":  closed(open + "\x00"),
		"eight bytes behind":          append(bytes.Clone(snap), make([]byte, 8)...),
		"a snapshot behind it":        append(bytes.Clone(snap), snap...),
		"a sum of the whole behind":   closed(string(snap)),
		"a fifth database":            closed(open + u4(0)),
		"a fifth database with a key": closed(open + u4(1) + text("k") + u8(0) + "\x01" + text("x")),
		"another beginning":           closed("LARDER02" + open[8:]),
		"small letters":               closed("larder01" + open[8:]),
		"the sum turned round":        append([]byte(open), reversed(sumOf(open))...),
		"the sum of nothing":          append([]byte(open), sumOf("")...),
		"only the beginning":          closed("LARDER01"),
		"only a sum":                  closed(""),
		"a record":                    line(t, entry(1, 5, "PING")),
	} {
		wantNone(t, what, b)
	}
}

func reversed(s string) string {
	b := []byte(s)
	slices.Reverse(b)
	return string(b)
}

// isSnapshot is a second reading of the chapter. What is too short runs out of its slices.
func isSnapshot(b []byte) (ok bool) {
	defer func() {
		if recover() != nil {
			ok = false
		}
	}()
	whole := b
	word8 := func() uint64 {
		n := binary.BigEndian.Uint64(b)
		b = b[8:]
		return n
	}
	count := func() int {
		n := binary.BigEndian.Uint32(b)
		b = b[4:]
		return int(n)
	}
	must := func(holds bool) {
		if !holds {
			panic("no snapshot")
		}
	}
	read := func() string {
		n := count()
		must(n <= 4096)
		s := string(b[:n:len(b)])
		b = b[n:]
		return s
	}
	must(string(b[:8]) == "LARDER01")
	b = b[8:]
	seq, clock := word8(), word8()
	must(seq < 1<<63 && clock <= latest)
	for range 4 {
		var keys []string
		for range count() {
			keys = append(keys, read())
			at := word8()
			must(at == 0 || at > clock && at <= latest)
			kind := b[0]
			b = b[1:]
			must(kind >= 1 && kind <= 5)
			if kind == 1 {
				read()
				continue
			}
			var names, scores []string
			n := count()
			must(n > 0)
			for range n {
				if kind == 5 {
					// With the sign's bit turned, words are in the order of the scores.
					scores = append(scores, u8(word8()^1<<63))
				}
				names = append(names, read())
				if kind == 3 {
					read()
				}
				if kind == 5 {
					scores[len(scores)-1] += names[len(names)-1]
				}
			}
			must(slices.IsSorted(scores))
			must(kind == 2 || kind == 5 || slices.IsSorted(names))
			slices.Sort(names)
			must(kind == 2 || len(slices.Compact(names)) == n)
		}
		n := len(keys)
		must(slices.IsSorted(keys))
		must(len(slices.Compact(keys)) == n)
	}
	rest := len(b)
	return word8() == word.Sum(whole[:len(whole)-rest]) && len(b) == 0
}

func wantAsSecond(t *testing.T, snap []byte) {
	t.Helper()
	want := isSnapshot(snap)
	s, seq, e := record.Load(plenty, seed, snap)
	switch {
	case e == api.OK && want:
		wantDump(t, "taken", s, seq, snap)
	case e == api.OK || e != api.ErrRecordSnap || want:
		t.Errorf("%q: Load: %d, it is a snapshot: %v", snap, e, want)
	}
}

// TestP16_7_Forged: snapshots of all sorts of faults whose sums are right.
func TestP16_7_Forged(t *testing.T) {
	taken := 0
	for _, x := range []shot{richShot(), {}, one(held{"k", 9, 5, ranked("-1", "b", "0", "a", "0", "c")}), one(held{"a", 0, 3, pairs("a", "b", "b", "")}), two("a", "b")} {
		spoilt(x.open(), func(open string) {
			snap := closed(open)
			if isSnapshot(snap) {
				taken++
			}
			wantAsSecond(t, snap)
		})
	}
	if taken < 100 {
		t.Errorf("only %d of the bytes were snapshots", taken)
	}
}

// TestR1_AnySnapshot: whatever the bytes are, Load ends.
func TestR1_AnySnapshot(t *testing.T) {
	r := rand.New(rand.NewSource(2))
	open := richShot().open()
	for range 5000 {
		b := []byte(open[:r.Intn(len(open)+1)])
		for range r.Intn(4) {
			if len(b) > 0 {
				b[r.Intn(len(b))] = byte(r.Intn(256))
			}
		}
		if r.Intn(4) == 0 {
			r.Read(b)
		}
		wantAsSecond(t, closed(string(b)))
		if len(b) > 0 {
			wantAsSecond(t, b)
		}
	}
}
