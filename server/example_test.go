package server_test

import (
	"testing"

	"larder/api"
)

func TestP20_3_Example1(t *testing.T) {
	want(t, made(t, 1000), step(0, "0:*1|$4|PING|"), "0:+PONG|")
}

func TestP20_6_Example2(t *testing.T) {
	const in, out = "*3|$3|SET|$1|a|$2|xy|*2|$3|GET|$1|a|", "+OK|$2|xy|"
	want(t, made(t, 1000), step(0, "0:"+in), "0:"+out)
	s := made(t, 1000)
	var got []byte
	for _, b := range wired(in) {
		for _, x := range s.Step(api.Step{Chunks: []api.Chunk{{Data: []byte{b}}}}) {
			got = append(got, x.Data...)
		}
	}
	if string(got) != string(wired(out)) {
		t.Errorf("%q, want %q", got, out)
	}
}

func TestP20_3_Example3(t *testing.T) {
	s := made(t, 1000)
	want(t, s, step(0, "0:GET a|"), "0:$-1|")
	want(t, s, step(0, "0:get a b|"), "0:-ERR wrong number of arguments|")
	want(t, s, step(0, "0:NOPE|"), "0:-ERR unknown command|")
}

func TestP20_3_Example4(t *testing.T) {
	s := made(t, 1000)
	want(t, s, step(0, "0:PING|*x and more|PING|"), "0:+PONG|-ERR Protocol error|")
	want(t, s, step(0, "0:PING|", "0:", "0:*x"), "")
	want(t, s, step(0, "0!"), "")
	want(t, s, step(0, "0:PING|"), "0:+PONG|")
}

func TestP20_3_Example5(t *testing.T) {
	s := made(t, 1000)
	want(t, s, step(5, "0:SET a 1 PX 10|"), "0:+OK|")
	want(t, s, step(14, "0:GET a|"), "0:$1|1|")
	want(t, s, step(15, "0:GET a|"), "0:$-1|")
}

func TestP20_3_Example6(t *testing.T) {
	want(t, made(t, 1000), step(0, "1:BLPOP q 0|", "0:RPUSH q e|"), "0::1| 1:*2|$1|q|$1|e|")
}

func TestP20_9_Example7(t *testing.T) {
	s := made(t, 1000)
	want(t, s, step(0, "0:MULTI|INCR n|INCR n|EXEC|"), "0:+OK|+QUEUED|+QUEUED|*2|:1|:2|")
	wantDisk(t, s, false, 0, "1@0 0[INCR n] 0[INCR n]")
}

func TestP20_10_Example8(t *testing.T) {
	s := made(t, 256)
	want(t, s, step(0, "0:"+long("k", 2000)), "0:-OOM|")
	want(t, s, step(0, "0:GET k|"), "0:$-1|")
	want(t, s, step(0, "0:"+long("k", 1800)), "0:+OK|")
	want(t, s, step(0, "0:MEMORY USED|"), "0::254|")
}

func TestP20_8_Example9(t *testing.T) {
	s := made(t, 1000)
	want(t, s, step(0, "0:SET a 1|"), "0:+OK|")
	s.Sync()
	want(t, s, step(0, "0:SET a 2|"), "0:+OK|")
	d := s.Disk()
	want(t, opened(t, 1000, d), step(0, "0:GET a|"), "0:$1|2|")
	d.Log = d.Log[:len(d.Log)-1]
	want(t, opened(t, 1000, d), step(0, "0:GET a|"), "0:$1|1|")
}

func TestP20_8_Example10(t *testing.T) {
	s := made(t, 1000)
	want(t, s, step(0, "0:SET a 1|SAVE|"), "0:+OK|+OK|")
	wantDisk(t, s, true, 0)
	want(t, opened(t, 1000, s.Disk()), step(0, "0:GET a|"), "0:$1|1|")
}
