package wire_test

import (
	"strconv"
	"strings"
	"testing"

	"larder/api"
	"larder/wire"
)

// crlf writes CR LF for each | of a text.
func crlf(s string) string { return strings.ReplaceAll(s, "|", "\r\n") }

// texts makes plain texts of a command's arguments.
func texts(args [][]byte) []string {
	l := make([]string, len(args))
	for i, a := range args {
		l[i] = string(a)
	}
	return l
}

// told writes commands down, so that no two rows of commands look alike.
func told(commands ...[]string) string {
	var s strings.Builder
	for _, c := range commands {
		for _, a := range c {
			s.WriteString(strconv.Quote(a) + " ")
		}
		s.WriteString(";")
	}
	return s.String()
}

// fed feeds a parser and writes down the commands that it tells.
func fed(p *wire.Parser, s string) (string, api.Errno) {
	l, e := p.Feed([]byte(s))
	var commands [][]string
	for _, c := range l {
		commands = append(commands, texts(c))
	}
	return told(commands...), e
}

// end: what is to be seen of a stream: its commands, how many bytes are held, where it breaks (-1: nowhere) and why.
type end struct {
	commands string
	held, at int
	broken   api.Errno
}

// wantFed holds a stream against what is to be seen of it: in one piece and byte by byte.
func wantFed(t *testing.T, s string, want end) {
	t.Helper()
	p := wire.New()
	if got, e := fed(p, s); got != want.commands || e != want.broken || p.Broken() != want.broken || p.Held() != want.held {
		t.Fatalf("Feed(%.90q) = %.200s, %d; held %d, broken %d; want %.200s, %d, held %d", s, got, e, p.Held(), p.Broken(), want.commands, want.broken, want.held)
	}
	p = wire.New()
	all := ""
	for i := range len(s) {
		got, e := fed(p, s[i:i+1])
		all += got
		wantError := api.OK
		if want.at >= 0 && i >= want.at {
			wantError = want.broken
		}
		if e != wantError || p.Broken() != wantError {
			t.Fatalf("%.90q: byte %d answers %d, broken %d, want %d", s, i, e, p.Broken(), wantError)
		}
		if i > want.at && want.at >= 0 && got != "" {
			t.Fatalf("%.90q: commands behind the break: %s", s, got)
		}
	}
	if all != want.commands || p.Held() != want.held {
		t.Fatalf("%.90q byte by byte: %.200s, held %d; want %.200s, held %d", s, all, p.Held(), want.commands, want.held)
	}
}

// one: what is to be seen of a stream that is one command.
func one(args ...string) end { return end{commands: told(args), at: -1} }

// open: what is to be seen of a stream of n bytes that is no whole request yet.
func open(n int) end { return end{held: n, at: -1} }

// breaks: what is to be seen of a stream that breaks at a byte.
func breaks(at int, e api.Errno) end { return end{at: at, broken: e} }

func TestP8_1_NewIsAtTheBeginning(t *testing.T) {
	p := wire.New()
	if p.Held() != 0 || p.Broken() != api.OK {
		t.Errorf("a new parser: held %d, broken %d", p.Held(), p.Broken())
	}
	for _, b := range [][]byte{nil, {}} {
		if l, e := p.Feed(b); len(l) != 0 || e != api.OK || p.Held() != 0 {
			t.Errorf("Feed of nothing: %d commands, %d, held %d", len(l), e, p.Held())
		}
	}
}

func TestP8_3_ArrayForm(t *testing.T) {
	for s, want := range map[string]end{
		"*1|$1|a|":                  one("a"),
		"*1|$0||":                   one(""),
		"*3|$0||$2|||$1|*|":         one("", "\r\n", "*"),
		"*2|$3|a\x00b|$2|\xff\xfe|": one("a\x00b", "\xff\xfe"),
		"*1|$8|$4|PING||":           one("$4\r\nPING"),
		"*10" + strings.Repeat("|$1|x", 10) + "|": one(strings.Split("xxxxxxxxxx", "")...),
		"*0|":       {at: -1},
		"*-1|":      {at: -1},
		"*0|*-1|\n": {at: -1},
	} {
		wantFed(t, crlf(s), want)
	}
	for _, n := range []int{1, 2, 9, 10, 11, 99, 100, 101, 127, 128} {
		args := strings.Split(strings.Repeat("k", n), "")
		wantFed(t, "*"+strconv.Itoa(n)+crlf(strings.Repeat("|$1|k", n)+"|"), one(args...))
	}
	for _, n := range []int{1, 9, 10, 99, 100, 999, 1000, 1023, 1024, 1025, 3999, 4000, 4095, 4096} {
		arg := strings.Repeat("\r\n*$", n)[:n]
		wantFed(t, "*1\r\n$"+strconv.Itoa(n)+"\r\n"+arg+"\r\n", one(arg))
		wantFed(t, "*1\r\n$"+strconv.Itoa(n)+"\r\n"+arg+"\n", breaks(6+len(strconv.Itoa(n))+1+n, api.ErrWireEnd))
	}
}

// TestP8_4_BreaksInACount: each of these breaks at its last byte.
func TestP8_4_BreaksInACount(t *testing.T) {
	for _, s := range []string{"*x", "*\r", "*\n", "* ", "*+", "*$", "**", "*--", "*-\r", "*-0", "*-2", "*-9", "*-x", "*-10", "*-11", "*-1\n", "*-1x", "*-1-", "*00", "*01", "*0-", "*0\n", "*1\n", "*1x", "*1-", "*1 ", "*1*", "*129", "*130", "*139", "*200", "*999", "*1280", "*1000", "*128\n", "*12x"} {
		wantFed(t, s, breaks(len(s)-1, api.ErrWireCount))
		wantFed(t, "\n*0\r\n"+s, breaks(5+len(s)-1, api.ErrWireCount))
	}
	for n := range 1000 {
		s := "*" + strconv.Itoa(n)
		if n <= api.MaxArgs {
			wantFed(t, s, open(len(s)))
			wantFed(t, s+"\r", open(len(s)+1))
			continue
		}
		wantFed(t, s, breaks(len(s)-1, api.ErrWireCount))
	}
}

// TestP8_4_BreaksInASize: each of these breaks at its last byte.
func TestP8_4_BreaksInASize(t *testing.T) {
	for _, s := range []string{"x", "\r", "\n", "*", "0", "-", "$-", "$x", "$\r", "$\n", "$$", "$+", "$00", "$01", "$0\n", "$1\n", "$1x", "$1-", "$4097", "$4100", "$5000", "$9999", "$40960", "$4096\n", "$409\n"} {
		for _, ahead := range []string{"*2\r\n", "*2\r\n$1\r\na\r\n"} {
			wantFed(t, ahead+s, breaks(len(ahead+s)-1, api.ErrWireBulk))
		}
	}
	for n := range 10000 {
		s := "*1\r\n$" + strconv.Itoa(n)
		if n <= api.MaxText {
			wantFed(t, s, open(len(s)))
			continue
		}
		wantFed(t, s, breaks(len(s)-1, api.ErrWireBulk))
	}
}

func TestP8_4_BreaksAtALineEnd(t *testing.T) {
	for _, c := range []byte("\rx*$1 \x00") {
		for _, s := range []string{"*1|", "*0|", "*-1|", "*128|", "*1|$0|", "*1|$4096|", "*1|$0||", "*1|$1|a|", "*2|$1|a|$2|bc|"} {
			s = strings.TrimSuffix(crlf(s), "\n")
			wantFed(t, s, open(len(s)))
			wantFed(t, s+string(c), breaks(len(s), api.ErrWireEnd))
		}
	}
	for _, c := range []byte("\nx*$1 \x00") {
		for _, s := range []string{"*1|$0|", "*1|$1|a", "*1|$2||", "*3|$1|a|$3|xyz"} {
			s = crlf(s)
			wantFed(t, s, open(len(s)))
			wantFed(t, s+string(c), breaks(len(s), api.ErrWireEnd))
		}
	}
}

func TestP8_4_Lines(t *testing.T) {
	x := func(n int) string { return strings.Repeat("x", n) }
	wantFed(t, "\n", end{at: -1})
	wantFed(t, " \t\v\f\r\n", end{at: -1})
	wantFed(t, "PING\r\n", one("PING"))
	wantFed(t, "a *1\n", one("a", "*1"))
	wantFed(t, "$1\n", one("$1"))
	wantFed(t, "-1\n", one("-1"))
	wantFed(t, "\x00\xff\n", one("\x00\xff"))
	wantFed(t, "'\r*'\n", one("\r*"))
	wantFed(t, x(1024), open(1024))
	wantFed(t, x(1024)+"\n", one(x(1024)))
	wantFed(t, x(1025), breaks(1024, api.ErrWireLine))
	wantFed(t, x(1024)+"\r\n", breaks(1024, api.ErrWireLine))
	wantFed(t, strings.Repeat(" ", 1025)+"\n", breaks(1024, api.ErrWireLine))
	wantFed(t, strings.Repeat(" ", 1024)+"\n", end{at: -1})
	wantFed(t, "'"+x(1024)+"\n", breaks(1024, api.ErrWireLine))
	wantFed(t, "'"+x(1023)+"\n", breaks(1024, api.ErrWireQuote))
	wantFed(t, strings.Repeat("a ", 128)+"\n", one(strings.Split(strings.Repeat("a", 128), "")...))
	wantFed(t, strings.Repeat("a ", 129), open(258))
	wantFed(t, strings.Repeat("a ", 129)+"\n", breaks(258, api.ErrWireLine))
	wantFed(t, strings.Repeat("a ", 129)+"'\n", breaks(259, api.ErrWireQuote))
	wantFed(t, "\"a\n\"\n", breaks(2, api.ErrWireQuote))
	wantFed(t, "'' ''x\n", breaks(6, api.ErrWireQuote))
}

func TestP8_4_NothingBehindTheBreak(t *testing.T) {
	for s, want := range map[string]api.Errno{"*x": api.ErrWireCount, "*1|x": api.ErrWireBulk, "*1\r\r": api.ErrWireEnd, strings.Repeat("x", 1025): api.ErrWireLine, "'\n": api.ErrWireQuote} {
		for _, ahead := range []string{"", "a\n", "*0|", "*2|$1|b|$0||c\n"} {
			for _, behind := range []string{"", "PING\n", "*1|$4|PING|", "\n\n|", "*"} {
				p := wire.New()
				wantAhead, _ := fed(wire.New(), crlf(ahead))
				if got, e := fed(p, crlf(ahead+s+behind)); got != wantAhead || e != want {
					t.Errorf("%.40q, broken, %q: %s, %d", ahead+s, behind, got, e)
				}
				for range 3 {
					if got, e := fed(p, crlf(behind)); got != "" || e != want || p.Broken() != want || p.Held() != 0 {
						t.Errorf("behind %.40q: %s, %d, broken %d, held %d", s, got, e, p.Broken(), p.Held())
					}
				}
			}
		}
	}
}

func TestHeldIsWhatCameBehindTheLastRequest(t *testing.T) {
	p := wire.New()
	for range 2 {
		for _, s := range []string{"*2|$3|GET|$1|k|", "PING|", "\n", "*0|", "  a 'b' |", "*-1|", "*1|$2|||", "a\n", "*1|$0||"} {
			s = crlf(s)
			for i := range len(s) {
				if _, e := fed(p, s[i:i+1]); e != api.OK || p.Held() != (i+1)%len(s) {
					t.Fatalf("%q, byte %d: %d, held %d", s, i, e, p.Held())
				}
			}
		}
	}
}
