package wire_test

import (
	"bytes"
	"strings"
	"testing"
	"time"

	"larder/api"
	"larder/wire"
)

const patience = 5 * time.Second

// inTime asks that what is done takes about as long as its bytes are many. (Over the whole each time, it would take minutes.)
func inTime(t *testing.T, what string, do func()) {
	t.Helper()
	start := time.Now()
	do()
	if took := time.Since(start); took > patience {
		t.Errorf("%s took %v", what, took)
	}
}

func TestP8_1_LongStreams(t *testing.T) {
	const times = 20000
	args := listed("SET", "key", strings.Repeat("v", 40))
	b, _ := wire.Command(args)
	stream := bytes.Repeat(append(b, "GET key\r\n"...), times)
	inTime(t, "Feed in one piece", func() {
		if l, e := wire.New().Feed(stream); len(l) != 2*times || e != api.OK {
			t.Errorf("%d commands, %d", len(l), e)
		}
	})
	inTime(t, "Feed byte by byte", func() {
		p := wire.New()
		n := 0
		for i := range stream {
			l, _ := p.Feed(stream[i : i+1])
			n += len(l)
		}
		if n != 2*times || p.Held() != 0 {
			t.Errorf("%d commands, held %d", n, p.Held())
		}
	})
	inTime(t, "Feed of the greatest commands", func() {
		p := wire.New()
		full := make([][]byte, api.MaxArgs)
		for i := range full {
			full[i] = make([]byte, api.MaxText)
		}
		b, _ := wire.Command(full)
		for range 20 {
			if l, e := p.Feed(b); len(l) != 1 || e != api.OK {
				t.Errorf("%d commands, %d", len(l), e)
			}
		}
	})
	inTime(t, "Feed behind a break", func() {
		p := wire.New()
		p.Feed([]byte("*x"))
		for range 1000 {
			p.Feed(stream)
		}
	})
}

func TestP8_1_LongReplies(t *testing.T) {
	list := make([]api.Reply, api.MaxReply)
	for i := range list {
		list[i] = api.Array([]api.Reply{api.Number(1), api.Nil()})
	}
	inTime(t, "Encode and Decode of a long list", func() {
		b, e := wire.Encode(api.Array(list))
		if e != api.OK {
			t.Fatal(e)
		}
		if r, n, e := wire.Decode(b); n != len(b) || e != api.OK || len(r.List) != api.MaxReply {
			t.Errorf("%d bytes, %d, %d replies", n, e, len(r.List))
		}
	})
	inTime(t, "Decode of long wrong bytes", func() {
		for _, s := range []string{":", "$", "*", "+", "", ":1", ":-", "$1\r\n"} {
			for _, c := range []string{"1", "0", "-", "x", "\r", "\n"} {
				wire.Decode([]byte(s + strings.Repeat(c, 1<<20)))
			}
		}
	})
}
