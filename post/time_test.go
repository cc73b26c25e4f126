package post_test

import (
	"strconv"
	"strings"
	"testing"
	"time"

	"larder/api"
	"larder/post"
)

const patience = 20 * time.Second

// soon asks that something ends within patience.
func soon(t *testing.T, what string, f func()) {
	t.Helper()
	start := time.Now()
	f()
	if took := time.Since(start); took > patience {
		t.Errorf("%s took %v", what, took)
	}
}

func TestR1_TimeOfLongPatterns(t *testing.T) {
	p := post.New()
	text := strings.Repeat("a", api.MaxText)
	for i := range api.MaxSubs {
		name := "*" + text[:api.MaxText/2-i] + "b"
		for conn := range api.MaxConns {
			join(t, p, conn, true, name)
		}
	}
	soon(t, "Heard", func() { wantHeard(t, p, text) })
}

func TestR1_TimeOfManyCalls(t *testing.T) {
	p := post.New()
	for conn := range api.MaxConns {
		fill(t, p, conn, api.MaxSubs)
	}
	soon(t, "many calls", func() {
		for i := range 2000 {
			name := strconv.Itoa(i % api.MaxSubs)
			conn := i % api.MaxConns
			p.Leave(conn, name, false)
			p.Join(conn, name, false)
			p.Heard(name)
			p.Names(conn, false)
			p.Channels("*")
			p.Listeners(name)
			p.Patterns()
		}
	})
}
