package wire_test

import (
	"math/rand"
	"strconv"
	"strings"
	"testing"

	"larder/api"
	"larder/wire"
)

// heads: what a head of the array form may be, by all that such heads begin with; a whole one leads to its number.
type heads map[string]int

const notWhole = -2

func headsOf(mark string, least, most int) heads {
	h := heads{}
	for n := least; n <= most; n++ {
		s := mark + strconv.Itoa(n) + "\r\n"
		for i := range s {
			h[s[:i]] = notWhole
		}
		h[s] = n
	}
	return h
}

// take reads a head that s begins with: its number (notWhole: it lacks bytes), and how many bytes of it are right.
func (h heads) take(s string) (number, right int) {
	number = notWhole
	for right < len(s) {
		n, ok := h[s[:right+1]]
		if !ok {
			return notWhole, right
		}
		right++
		if number = n; n != notWhole {
			break
		}
	}
	return number, right
}

// reading: how far the plain reading of a stream has come; stop: it can't go on.
type reading struct {
	end
	s     string
	stop  bool
	count heads
	size  heads
}

// head reads a head: its number, if the reading may go on.
func (r *reading) head(h heads, e api.Errno, at int) (number, next int) {
	n, right := h.take(r.s[at:])
	next = at + right
	if n != notWhole {
		return n, next
	}
	r.stop = true
	if next < len(r.s) {
		r.at, r.broken = next, e
		if strings.HasSuffix(r.s[at:next], "\r") {
			r.broken = api.ErrWireEnd
		}
	}
	return n, next
}

// argument reads an argument's bytes and its line end.
func (r *reading) argument(n, at int) (string, int) {
	next := at + n
	for _, c := range []byte("\r\n") {
		if next >= len(r.s) {
			r.stop = true
			return "", next
		}
		if r.s[next] != c {
			r.stop, r.at, r.broken = true, next, api.ErrWireEnd
			return "", next
		}
		next++
	}
	return r.s[at : at+n], next
}

// array reads a request in the array form; where it ends.
func (r *reading) array(at int) int {
	n, at := r.head(r.count, api.ErrWireCount, at)
	var args []string
	for len(args) < n && !r.stop {
		size, next := r.head(r.size, api.ErrWireBulk, at)
		if r.stop {
			break
		}
		var a string
		a, at = r.argument(size, next)
		args = append(args, a)
	}
	if !r.stop && n > 0 {
		r.commands += told(args)
	}
	return at
}

// line reads a request in the line form; where it ends.
func (r *reading) line(at int) int {
	line, _, ended := strings.Cut(r.s[at:], "\n")
	if len(line) > api.MaxLine {
		r.stop, r.at, r.broken = true, at+api.MaxLine, api.ErrWireLine
		return at
	}
	if !ended {
		r.stop = true
		return at
	}
	words, ok := split(line)
	switch {
	case !ok:
		r.stop, r.at, r.broken = true, at+len(line), api.ErrWireQuote
	case len(words) > api.MaxArgs:
		r.stop, r.at, r.broken = true, at+len(line), api.ErrWireLine
	case len(words) > 0:
		r.commands += told(words)
	}
	return at + len(line) + 1
}

// read reads a stream as the chapter's words say.
func read(s string, count, size heads) end {
	r := &reading{end: end{at: -1}, s: s, count: count, size: size}
	for at := 0; at < len(s) && !r.stop; {
		r.held = len(s) - at
		if s[at] == '*' {
			at = r.array(at)
		} else {
			at = r.line(at)
		}
	}
	if !r.stop || r.broken != api.OK {
		r.held = 0
	}
	return r.end
}

// wantPieces feeds a stream in drawn pieces, empty ones too.
func wantPieces(t *testing.T, r *rand.Rand, s string, want end) {
	t.Helper()
	p := wire.New()
	all := ""
	for at, broken := 0, false; at < len(s); {
		n := min(r.Intn(1+r.Intn(20)), len(s)-at)
		got, e := fed(p, s[at:at+n])
		at += n
		if broken && got != "" {
			t.Fatalf("%.90q: commands behind the break", s)
		}
		all += got
		broken = want.at >= 0 && want.at < at
		if (e != api.OK) != broken || broken && e != want.broken {
			t.Fatalf("%.90q: %d behind %d bytes; want %d at %d", s, e, at, want.broken, want.at)
		}
	}
	if all != want.commands || p.Held() != want.held || p.Broken() != want.broken {
		t.Fatalf("%.90q in pieces: %.200s, held %d, broken %d; want %.200s, held %d, broken %d", s, all, p.Held(), p.Broken(), want.commands, want.held, want.broken)
	}
}

func TestP8_1_EveryShortStream(t *testing.T) {
	count, size := headsOf("*", -1, api.MaxArgs), headsOf("$", 0, api.MaxText)
	const letters = "*$-012\r\n'"
	var try func(s string, n int)
	try = func(s string, n int) {
		want := read(s, count, size)
		wantFed(t, s, want)
		if n == 0 || want.broken != api.OK && want.at < len(s)-1 {
			return
		}
		for _, c := range letters {
			try(s+string(c), n-1)
		}
	}
	try("", 5)
	for _, s := range []string{"*1\r\n", "*2\r\n$0\r\n\r\n", "*1\r\n$1\r\n", "*1\r\n$1\r\n\r\r\n", "*12", "a\n*1"} {
		try(s, 4)
	}
}

// drawnStream makes a stream of requests, most of them right.
func drawnStream(r *rand.Rand) string {
	s := ""
	for range 1 + r.Intn(6) {
		switch r.Intn(8) {
		case 0:
			s += []string{"\n", "\r\n", "*0\r\n", "*-1\r\n", " \t\r\n", "PING\r\n"}[r.Intn(6)]
		case 1:
			b := make([]byte, r.Intn(1+r.Intn(12)))
			for i := range b {
				b[i] = `ab "'\x4`[r.Intn(8)]
			}
			s += string(b) + "\n"
		case 2:
			n := []int{1, 2, 127, 128, 129}[r.Intn(5)]
			s += strings.Repeat([]string{"a ", "'' "}[r.Intn(2)], n) + "\n"
		case 3:
			s += strings.Repeat(string("x "[r.Intn(2)]), []int{1023, 1024, 1025}[r.Intn(3)]) + "\n"
		case 4:
			args := make([]string, []int{1, 126, 127, 128, 129}[r.Intn(5)])
			s += form(args...)
		case 5:
			s += form(strings.Repeat("y", []int{9, 10, 4095, 4096, 4097}[r.Intn(5)]))
		default:
			args := make([]string, 1+r.Intn(4))
			for i := range args {
				args[i] = "\r\n*1\r\n$1"[:r.Intn(9)]
			}
			s += form(args...)
		}
	}
	return s
}

func TestP8_2_PiecesAreNotSeen(t *testing.T) {
	count, size := headsOf("*", -1, api.MaxArgs), headsOf("$", 0, api.MaxText)
	r := rand.New(rand.NewSource(2))
	for range 1500 {
		s := drawnStream(r)
		switch i := r.Intn(len(s)); r.Intn(4) {
		case 0:
			s = s[:i]
		case 1:
			s = s[:i] + string("\r\n*$-019x'"[r.Intn(10)]) + s[i+1:]
		case 2:
			s = s[:i] + s[i+1:]
		}
		want := read(s, count, size)
		wantFed(t, s, want)
		wantPieces(t, r, s, want)
		wantPieces(t, r, s, want)
	}
}

func TestP8_2_EveryCutIntoTwo(t *testing.T) {
	for _, s := range []string{"*2|$3|GET|$1|k|PING|\n*0|*-1|*1|$4|a||x|a 'b c'\"\n", "*128|$12|ab|cd|ef|gh|", "a\n*1|$2|ab|*1|$4097|b\n"} {
		s = crlf(s)
		p := wire.New()
		commands, e := fed(p, s)
		for i := range len(s) + 1 {
			q := wire.New()
			a, _ := fed(q, s[:i])
			none, _ := q.Feed(nil)
			b, f := fed(q, s[i:])
			if a+b != commands || len(none) != 0 || e != f || q.Held() != p.Held() || q.Broken() != p.Broken() {
				t.Errorf("%q cut at %d: %s, %s, %d, held %d", s, i, a, b, f, q.Held())
			}
		}
	}
}

// completed tells bytes that make what is held, in the array form, a whole request.
func completed(held string, count, size heads) string {
	for _, head := range []string{"", "\n", "\r\n", "0\r\n", "1\r\n"} {
		for n := range 13 {
			for _, tail := range []string{"", "\n", "\r\n"} {
				for args := range 4 {
					more := head + strings.Repeat("x", n) + tail + strings.Repeat("$0\r\n\r\n", args)
					if got := read(held+more, count, size); more != "" && got.broken == api.OK && got.held == 0 {
						return more
					}
				}
			}
		}
	}
	return ""
}

func TestP8_4_WhatIsHeldCanBecomeWhole(t *testing.T) {
	count, size := headsOf("*", -1, api.MaxArgs), headsOf("$", 0, api.MaxText)
	for _, s := range []string{"*-1|", "*0|", "*1|$0||", "*2|$4|a|b|$1|$|", "*3|$0||$0||$1|x|", "*1|$12|abcdefghijkl|"} {
		s = crlf(s)
		for i := 1; i < len(s); i++ {
			tail := completed(s[:i], count, size)
			p := wire.New()
			if _, e := p.Feed([]byte(s[:i])); e != api.OK || p.Held() != i || tail == "" {
				t.Fatalf("%q: %d, held %d, tail %q", s[:i], e, p.Held(), tail)
			}
			if _, e := p.Feed([]byte(tail)); e != api.OK || p.Held() != 0 {
				t.Errorf("%q and %q: %d, held %d", s[:i], tail, e, p.Held())
			}
		}
	}
}
