package post_test

import (
	"slices"
	"strconv"
	"strings"
	"testing"

	"larder/api"
	"larder/post"
)

// noConns are numbers that are none of the connections.
var noConns = []int{-1, api.MaxConns, api.MaxConns + 1, 99, 256, 1 << 32, 1<<63 - 1, -1 << 63}

func wantJoin(t *testing.T, p *post.Post, conn int, name string, pattern bool, count int, joined bool, e api.Errno) {
	t.Helper()
	n, ok, f := p.Join(conn, name, pattern)
	if n != count || ok != joined || f != e {
		t.Errorf("Join(%d, %.20q, %v) = %d, %v, %d, want %d, %v, %d", conn, name, pattern, n, ok, int(f), count, joined, int(e))
	}
}

func wantLeave(t *testing.T, p *post.Post, conn int, name string, pattern bool, count int, left bool, e api.Errno) {
	t.Helper()
	n, ok, f := p.Leave(conn, name, pattern)
	if n != count || ok != left || f != e {
		t.Errorf("Leave(%d, %.20q, %v) = %d, %v, %d, want %d, %v, %d", conn, name, pattern, n, ok, int(f), count, left, int(e))
	}
}

// byName and byPattern are what Heard tells of a connection.
func byName(conn int, channel string) api.Hit {
	return api.Hit{Conn: conn, Name: channel}
}

func byPattern(conn int, pattern string) api.Hit {
	return api.Hit{Conn: conn, Pattern: true, Name: pattern}
}

func wantHeard(t *testing.T, p *post.Post, channel string, want ...api.Hit) {
	t.Helper()
	if got := p.Heard(channel); !slices.Equal(got, want) {
		t.Errorf("Heard(%.20q) = %.200v, want %.200v", channel, got, want)
	}
}

func wantNames(t *testing.T, p *post.Post, conn int, pattern bool, want ...string) {
	t.Helper()
	if got := p.Names(conn, pattern); !slices.Equal(got, want) {
		t.Errorf("Names(%d, %v) = %.200q, want %.200q", conn, pattern, got, want)
	}
}

func wantCount(t *testing.T, p *post.Post, conn, want int) {
	t.Helper()
	if got := p.Count(conn); got != want {
		t.Errorf("Count(%d) = %d, want %d", conn, got, want)
	}
}

func wantChannels(t *testing.T, p *post.Post, pattern string, want ...string) {
	t.Helper()
	if got := p.Channels(pattern); !slices.Equal(got, want) {
		t.Errorf("Channels(%.20q) = %.200q, want %.200q", pattern, got, want)
	}
}

func wantListeners(t *testing.T, p *post.Post, channel string, want int) {
	t.Helper()
	if got := p.Listeners(channel); got != want {
		t.Errorf("Listeners(%.20q) = %d, want %d", channel, got, want)
	}
}

func wantPatterns(t *testing.T, p *post.Post, want int) {
	t.Helper()
	if got := p.Patterns(); got != want {
		t.Errorf("Patterns() = %d, want %d", got, want)
	}
}

// wantNobody asks that nobody listens to anything.
func wantNobody(t *testing.T, p *post.Post) {
	t.Helper()
	for conn := range api.MaxConns {
		wantCount(t, p, conn, 0)
		wantNames(t, p, conn, false)
		wantNames(t, p, conn, true)
	}
	for _, text := range []string{"", "*", "news", "\x00"} {
		wantHeard(t, p, text)
		wantChannels(t, p, text)
		wantListeners(t, p, text, 0)
	}
	wantPatterns(t, p, 0)
}

// join lets a connection listen to all these.
func join(t *testing.T, p *post.Post, conn int, pattern bool, names ...string) {
	t.Helper()
	for _, name := range names {
		if _, ok, e := p.Join(conn, name, pattern); !ok || e != api.OK {
			t.Fatalf("Join(%d, %.20q, %v): %v, %d", conn, name, pattern, ok, int(e))
		}
	}
}

// fill lets a connection listen to that many channels and patterns, by turns.
func fill(t *testing.T, p *post.Post, conn, names int) {
	t.Helper()
	for i := range names {
		join(t, p, conn, i%2 == 0, strconv.Itoa(i))
	}
}

// long is a text of that many bytes.
func long(bytes int) string {
	return strings.Repeat("x", bytes)
}
