package record_test

import (
	"bytes"
	"fmt"
	"slices"
	"strings"
	"testing"

	"larder/api"
	"larder/record"
)

func group(n int) []api.Act { return slices.Repeat([]api.Act{act("A")}, n) }

// bounds is entries at the bounds of P16.1.
func bounds() []struct {
	e    api.Entry
	want api.Errno
} {
	one := func(db int, args [][]byte) api.Entry {
		return api.Entry{Seq: 1, Group: []api.Act{{DB: db, Args: args}}}
	}
	many := func(n int) [][]byte { return make([][]byte, n) }
	long := func(n int) [][]byte { return [][]byte{[]byte("A"), bytes.Repeat([]byte("x"), n)} }
	last := func(a api.Act) api.Entry { return api.Entry{Seq: 1, Group: append(group(63), a)} }
	bad := api.ErrRecordEntry
	return []struct {
		e    api.Entry
		want api.Errno
	}{
		{api.Entry{}, bad},
		{entry(1, 0, "A"), api.OK}, {entry(0, 0, "A"), bad}, {entry(-1, 0, "A"), bad}, {entry(-1<<63, 0, "A"), bad}, {entry(greatest, 0, "A"), api.OK},
		{entry(1, latest, "A"), api.OK}, {entry(1, latest+1, "A"), bad}, {entry(1, 1<<63, "A"), bad}, {entry(1, 1<<64-1, "A"), bad},
		{entry(1, 0), bad}, {api.Entry{Seq: 1, Group: []api.Act{}}, bad}, {api.Entry{Seq: 1, Group: group(64)}, api.OK}, {api.Entry{Seq: 1, Group: group(65)}, bad}, {api.Entry{Seq: 1, Group: group(1000)}, bad},
		{one(0, args("A")), api.OK}, {one(3, args("A")), api.OK}, {one(4, args("A")), bad}, {one(-1, args("A")), bad}, {one(256, args("A")), bad}, {one(1<<62, args("A")), bad}, {one(-1<<63, args("A")), bad},
		{one(0, nil), bad}, {one(0, many(0)), bad}, {one(0, many(1)), api.OK}, {one(0, many(128)), api.OK}, {one(0, many(129)), bad}, {one(0, many(1000)), bad},
		{one(0, long(4096)), api.OK}, {one(0, long(4097)), bad}, {one(0, long(1<<20)), bad},
		{last(act("@3 B")), api.OK}, {last(act("@4 B")), bad}, {last(api.Act{}), bad}, {last(api.Act{Args: long(4097)}), bad}, {last(api.Act{Args: many(129)}), bad},
		{entry(1, 0, "@3 NOSUCH \"\" \"\\x00\\xff\\r\\n\""), api.OK},
	}
}

func TestP16_1_WhatMayBeWritten(t *testing.T) {
	for i, c := range bounds() {
		b, e := record.Line(c.e)
		if e != c.want || (len(b) > 0) != (e == api.OK) {
			t.Errorf("row %d: %d bytes, %d, want %d", i, len(b), e, c.want)
		}
	}
}

func TestP16_2_Examples(t *testing.T) {
	b := line(t, entry(1, 5, "PING"))
	want := "aa0000000000000021" + "9a24a83891ff01c5" + "0000000000000001" + "0000000000000005" + "00000001" + "00" + "00000001" + "00000004" + "50494e47" + "0471f385ead75a3a" + "55"
	if got := fmt.Sprintf("%x", b); got != want || len(b) != 59 {
		t.Errorf("%s, want %s", got, want)
	}
}

// TestP16_2_TheRecord: the same bytes as by the second writing, of small entries and of the greatest.
func TestP16_2_TheRecord(t *testing.T) {
	greatest := api.Entry{Seq: greatest, Now: latest}
	for i := range 64 {
		a := api.Act{DB: i % 4}
		for j := range 128 {
			a.Args = append(a.Args, bytes.Repeat([]byte{byte(i + j)}, (i*128+j)%4097))
		}
		greatest.Group = append(greatest.Group, a)
	}
	all := []api.Entry{greatest, entry(0x0102030405060708, 0x0008090a0b0c0d0e, "@1 SET a \"\"", "@2 DEL a b", "x")}
	for _, c := range bounds() {
		if c.want == api.OK {
			all = append(all, c.e)
		}
	}
	for i, e := range all {
		b := line(t, e)
		body := bodyOf(e)
		if string(b) != framed(body) {
			t.Errorf("row %d: %.200q, want %.200q", i, b, framed(body))
		}
		if len(b) != len(body)+26 || b[0] != 0xaa || b[len(b)-1] != 0x55 {
			t.Errorf("row %d: %d bytes for a body of %d", i, len(b), len(body))
		}
	}
}

func TestP16_3_NilIsEmpty(t *testing.T) {
	a := line(t, api.Entry{Seq: 1, Group: []api.Act{{Args: [][]byte{nil, {}, nil}}}})
	b := line(t, api.Entry{Seq: 1, Group: []api.Act{{Args: [][]byte{{}, nil, {}}}}})
	if !bytes.Equal(a, b) || len(a) != 26+20+5+12 {
		t.Errorf("%x and %x", a, b)
	}
}

// TestP16_3_Back: what Line writes Read reads.
func TestP16_3_Back(t *testing.T) {
	for i, c := range bounds() {
		if c.want != api.OK {
			continue
		}
		b := line(t, c.e)
		l, n := record.Read(b)
		if n != len(b) || len(l) != 1 || l[0].Seq != c.e.Seq || l[0].Now != c.e.Now || bodyOf(l[0]) != bodyOf(c.e) {
			t.Errorf("row %d: %d entries, %d bytes of %d", i, len(l), n, len(b))
		}
	}
}

func TestP16_3_NothingIsLookedAtButTheForm(t *testing.T) {
	for _, l := range []string{"NOSUCH", "GET", "get a b c", "\"\"", strings.Repeat("x ", 128), "EXEC", "SET a b EX -1"} {
		line(t, entry(1, 0, l))
	}
}
