package server_test

import (
	"bytes"
	"fmt"
	"math"
	"strings"
	"testing"
	"time"

	"larder/api"
	"larder/server"
)

const patience = 20 * time.Second

func wantSoon(t *testing.T, start time.Time) {
	t.Helper()
	if took := time.Since(start); took > patience {
		t.Errorf("took %v", took)
	}
}

func TestR1_TimeOfManySteps(t *testing.T) {
	s := made(t, api.MaxQuota)
	start := time.Now()
	for i := range 30000 {
		s.Step(step(uint64(i), fmt.Sprintf("%d:SET k%d %d|", i%api.MaxConns, i%300, i)))
	}
	wantSoon(t, start)
	d := s.Disk()
	want(t, opened(t, api.MaxQuota, d), step(0, "0:DBSIZE|GET k299|"), "0::300|$5|29999|")
	wantSoon(t, start)
}

func TestR1_TimeOfManyChunks(t *testing.T) {
	s := made(t, 1000)
	start := time.Now()
	data := bytes.Repeat([]byte("PING\n"), 20000)
	var x api.Step
	for i := range data {
		for conn := range 2 {
			x.Chunks = append(x.Chunks, api.Chunk{Conn: conn, Data: data[i : i+1]})
		}
	}
	out := s.Step(x)
	if len(out) != 2 || len(out[0].Data) != 20000*7 || len(out[1].Data) != 20000*7 {
		t.Error("not all is answered")
	}
	wantSoon(t, start)
}

func TestR1_TimeOfGreatChunks(t *testing.T) {
	s := made(t, 1000)
	start := time.Now()
	want(t, s, api.Step{Chunks: []api.Chunk{{Conn: 0, Data: bytes.Repeat([]byte("\n"), 1<<23)}, {Conn: 1, Data: bytes.Repeat([]byte("x"), 1<<23)}, {Conn: 2, Data: bytes.Repeat([]byte("*0\r\n"), 1<<21)}, {Conn: 3, Data: []byte("*128\r\n" + strings.Repeat("$4096\r\n"+strings.Repeat("y", 4096)+"\r\n", 128))}}}, "1:-ERR Protocol error| 3:-ERR unknown command|")
	wantSoon(t, start)
}

func TestR1_TimeOfManySaves(t *testing.T) {
	s := made(t, api.MaxQuota)
	start := time.Now()
	for i := range 150 {
		s.Step(step(0, "0:"+long(fmt.Sprint(i), 500)))
	}
	for range 300 {
		want(t, s, step(0, "0:SAVE|"), "0:+OK|")
	}
	wantSoon(t, start)
}

// TestR1_AnyNumbers: no call panics, whatever it is given.
func TestR1_AnyNumbers(t *testing.T) {
	numbers := []int{math.MinInt, -1 << 31, -1, 0, 1, 7, 8, 63, 64, 1 << 19, 1 << 20, math.MaxInt}
	for _, a := range numbers {
		for _, b := range numbers {
			s := made(t, 256)
			x := api.Step{Now: uint64(b), Half: a, Collect: a > 0, Draws: make([]byte, 5000), Chunks: []api.Chunk{{Conn: b, Data: wired("PING|*x"), Hang: a > b}, {Conn: 1, Data: nil}, {}}}
			s.Step(x)
			want(t, s, step(0, "2:PING|"), "2:+PONG|")
			if o, e := server.Open(api.Config{Quota: a, Seed: uint64(b)}, api.Disk{Synced: b}); (o == nil) != (e != api.OK) {
				t.Errorf("Open: %d", e)
			}
		}
	}
	s := made(t, 256)
	if out := s.Step(api.Step{}); len(out) != 0 {
		t.Errorf("%v", out)
	}
}

// TestR1_DrawnBytes: whatever the bytes, of requests and of disks.
func TestR1_DrawnBytes(t *testing.T) {
	const letters = "*$\r\n\r\n\r\n-0112345PINGSETab \"'\\x\x00\xff"
	draw := playerOf(9000)
	for range 300 {
		s := made(t, 256)
		for range 30 {
			b := make([]byte, draw.r.Intn(40))
			for i := range b {
				b[i] = letters[draw.r.Intn(len(letters))]
			}
			s.Step(api.Step{Chunks: []api.Chunk{{Conn: draw.r.Intn(10) - 1, Data: b, Hang: draw.chance(4)}}})
		}
		b := append(snapshotOf(t, draw.r.Intn(4)), records(1, 2)...)
		b[draw.r.Intn(len(b))] ^= byte(draw.r.Intn(256))
		cut := draw.r.Intn(len(b))
		if o, e := server.Open(api.Config{Quota: 256}, api.Disk{Snap: b[:cut], Log: b[cut:]}); (o == nil) != (e == api.ErrServerDisk) {
			t.Fatalf("Open: %d", e)
		}
	}
}
