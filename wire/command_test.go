package wire_test

import (
	"math/rand"
	"strconv"
	"strings"
	"testing"

	"larder/api"
	"larder/wire"
)

// listed makes a command's arguments of plain texts.
func listed(args ...string) [][]byte {
	l := make([][]byte, len(args))
	for i, a := range args {
		l[i] = []byte(a)
	}
	return l
}

// form writes the array form as the chapter's words say.
func form(args ...string) string {
	s := "*" + strconv.Itoa(len(args)) + "\r\n"
	for _, a := range args {
		s += "$" + strconv.Itoa(len(a)) + "\r\n" + a + "\r\n"
	}
	return s
}

// wantCommand holds Command to the array form, and a parser to reading it as just that.
func wantCommand(t *testing.T, args ...string) {
	t.Helper()
	b, e := wire.Command(listed(args...))
	if string(b) != form(args...) || e != api.OK {
		t.Fatalf("Command(%.100q) = %.100q, %d", args, b, e)
	}
	wantFed(t, string(b), one(args...))
}

// noCommand holds Command to a refusal.
func noCommand(t *testing.T, args ...string) {
	t.Helper()
	if b, e := wire.Command(listed(args...)); len(b) != 0 || e != api.ErrWireCommand {
		t.Fatalf("Command of %d arguments: %d bytes, %d", len(args), len(b), e)
	}
}

func TestP8_3_Command(t *testing.T) {
	wantCommand(t, "PING")
	wantCommand(t, "")
	wantCommand(t, "GET", "")
	wantCommand(t, "\r\n", "*1\r\n$1\r\nx\r\n", "'", "\"", "\x00\xff")
	for _, n := range []int{1, 9, 10, 99, 100, 128} {
		wantCommand(t, strings.Split(strings.Repeat("a", n), "")...)
		wantCommand(t, make([]string, n)...)
	}
	for _, n := range []int{1, 9, 10, 99, 100, 999, 1000, 1024, 1025, 4095, 4096} {
		wantCommand(t, strings.Repeat("x", n), "y")
	}
}

func TestCommandRefuses(t *testing.T) {
	text, long := strings.Repeat("x", 4096), strings.Repeat("x", 4097)
	noCommand(t)
	noCommand(t, make([]string, 129)...)
	noCommand(t, make([]string, 1000)...)
	noCommand(t, long)
	noCommand(t, "a", long)
	noCommand(t, long, "a")
	noCommand(t, text, long)
	noCommand(t, append(make([]string, 127), long)...)
	noCommand(t, append(make([]string, 128), long)...)
	wantCommand(t, append(make([]string, 127), text)...)
}

func TestP8_3_RowsOfCommands(t *testing.T) {
	r := rand.New(rand.NewSource(7))
	for range 500 {
		stream, commands := "", ""
		for range 1 + r.Intn(8) {
			args := make([]string, 1+r.Intn(1+r.Intn(20)))
			for i := range args {
				b := make([]byte, r.Intn(1+r.Intn(40)))
				for k := range b {
					b[k] = "\r\n*$01x\"' \x00"[r.Intn(11)]
				}
				args[i] = string(b)
			}
			b, e := wire.Command(listed(args...))
			if e != api.OK {
				t.Fatal(e)
			}
			stream += string(b)
			commands += told(args)
		}
		wantFed(t, stream, end{commands: commands, at: -1})
	}
}
