package wire_test

import (
	"bytes"
	"slices"
	"strings"
	"testing"

	"larder/api"
	"larder/wire"
)

// spoil writes over bytes and their spare room.
func spoil(b []byte) {
	b = b[:cap(b)]
	for i := range b {
		b[i] = 0xee
	}
}

// spoilArgs writes over a command's arguments, one by one, and asks for each that the others are untouched; then over the list.
func spoilArgs(t *testing.T, args [][]byte, want []string) {
	t.Helper()
	for i := range args {
		if !slices.Equal(texts(args[i:]), want[i:]) {
			t.Fatalf("%.100q, want %.100q: arguments share memory", texts(args[i:]), want[i:])
		}
		spoil(args[i])
	}
	args = args[:cap(args)]
	for i := range args {
		args[i] = []byte("spoiled")
	}
}

func TestP8_6_CommandsAreNewMemory(t *testing.T) {
	stream := []byte(crlf("*3|$2|ab|$0||$5|cdefg|p 'q r' \"\"|*2|$1|x|$1|y|*1|$3|zzz|z 'z'\n"))
	want := [][]string{{"ab", "", "cdefg"}, {"p", "q r", ""}, {"x", "y"}, {"zzz"}, {"z", "z"}}
	for cut := range len(stream) + 1 {
		p := wire.New()
		piece := bytes.Clone(stream[:cut])
		a, _ := p.Feed(piece)
		spoil(piece)
		i := 0
		for _, c := range a {
			spoilArgs(t, c, want[i])
			i++
		}
		clear(a[:cap(a)])
		b, e := p.Feed(stream[cut:])
		if e != api.OK || len(a)+len(b) != len(want) {
			t.Fatalf("cut at %d: %d and %d commands, %d", cut, len(a), len(b), e)
		}
		for _, c := range b {
			spoilArgs(t, c, want[i])
			i++
		}
		clear(b[:cap(b)])
		if got, e := fed(p, "*1\r\n$3\r\nabc\r\nd e\n"); got != told([]string{"abc"}, []string{"d", "e"}) || e != api.OK {
			t.Fatalf("behind spoilt answers: %s, %d", got, e)
		}
	}
}

func TestP8_6_AnswersStayBehindLaterCalls(t *testing.T) {
	p := wire.New()
	a, _ := p.Feed([]byte("a b\nc\nd\n*1\r\n$1\r\ne\r\n"))
	for _, s := range []string{"v w\n", "*2\r\n$1\r\nx\r\n$1\r\ny\r\n", "z\nz\n*x"} {
		p.Feed([]byte(s))
		got := told(texts(a[0]), texts(a[1]), texts(a[2]), texts(a[3]))
		if want := told([]string{"a", "b"}, []string{"c"}, []string{"d"}, []string{"e"}); got != want {
			t.Errorf("behind %q an earlier answer is %s", s, got)
		}
	}
}

func TestP8_6_ToldAtABreak(t *testing.T) {
	p, q := wire.New(), wire.New()
	l, e := p.Feed([]byte("a b\n'c d'\n'"))
	if e != api.OK {
		t.Fatal(e)
	}
	spoilArgs(t, l[0], []string{"a", "b"})
	spoilArgs(t, l[1], []string{"c d"})
	m, e := p.Feed([]byte("'\nx y\n'\n"))
	if e != api.ErrWireQuote || len(m) != 2 {
		t.Fatalf("%d commands, %d", len(m), e)
	}
	spoilArgs(t, m[0], []string{""})
	spoilArgs(t, m[1], []string{"x", "y"})
	if got, e := fed(q, "x y\n"); got != told([]string{"x", "y"}) || e != api.OK {
		t.Errorf("another parser: %s, %d", got, e)
	}
}

func TestP8_6_ParsersShareNothing(t *testing.T) {
	streams := []string{crlf("*2|$3|abc|$1|d|e f|"), crlf("*1|$10|0123456789|g\n"), "h i 'j k'\n*x", "\n\n*0\r\n\"\n"}
	parsers := []*wire.Parser{wire.New(), wire.New(), wire.New(), wire.New()}
	got := make([]string, len(streams))
	for i := range 40 {
		for k, s := range streams {
			if i < len(s) {
				commands, _ := fed(parsers[k], s[i:i+1])
				got[k] += commands
			}
		}
	}
	for k, s := range streams {
		alone := wire.New()
		want, e := fed(alone, s)
		if got[k] != want || parsers[k].Broken() != e || parsers[k].Held() != alone.Held() {
			t.Errorf("%q beside others: %s, %d, held %d, want %s, %d", s, got[k], parsers[k].Broken(), parsers[k].Held(), want, e)
		}
	}
}

func TestR2_ArgumentsStay(t *testing.T) {
	room := []byte(crlf("*2|$3|abc|$1|d|e 'f'\n") + "spare room behind the end")
	kept := bytes.Clone(room)
	n := len(room) - 25
	p := wire.New()
	p.Feed(room[:9])
	p.Feed(room[9:n])
	wire.Line(room[n-6 : n])
	wire.Decode(room[4:13])
	args := [][]byte{room[:3], room[:0], room[5:8]}
	spare := append(args, []byte("more"))
	wire.Command(args[:2])
	wire.Command(args[:3:3])
	list := []api.Reply{{Kind: api.ReplyBulk, Text: room[:5]}, {Kind: api.ReplyInt}, {Kind: api.ReplyNil}}
	wire.Encode(api.Reply{Kind: api.ReplyArray, List: list[:2]})
	wire.Encode(api.Reply{Kind: api.ReplyStatus, Text: room[8:9]})
	if !bytes.Equal(room, kept) || string(spare[3]) != "more" || list[2].Kind != api.ReplyNil || len(list[0].Text) != 5 {
		t.Errorf("an argument or the room behind it was changed: %q", room)
	}
}

func TestR2_LineAndWrittenBytesAreNewMemory(t *testing.T) {
	line := []byte(`ab "cd" '' e"f g" h`)
	words, _ := wire.Line(line)
	spoil(line)
	spoilArgs(t, words, []string{"ab", "cd", "", "ef g", "h"})

	arg := []byte("abc")
	a, _ := wire.Command([][]byte{arg})
	b, _ := wire.Command([][]byte{arg})
	spoil(arg)
	spoil(a)
	if string(b) != crlf("*1|$3|abc|") {
		t.Errorf("Command: %q", b)
	}
	text := []byte("xyz")
	a, _ = wire.Encode(api.Reply{Kind: api.ReplyBulk, Text: text})
	b, _ = wire.Encode(api.Reply{Kind: api.ReplyBulk, Text: text})
	spoil(text)
	spoil(a)
	if string(b) != crlf("$3|xyz|") {
		t.Errorf("Encode: %q", b)
	}
}

func TestR2_DecodedRepliesAreNewMemory(t *testing.T) {
	s := []byte(crlf("*5|+abc|*2|$2|de|-fg|$0||*1|:5|$4|hijk|"))
	want, _, _ := wire.Decode(s)
	got, _, e := wire.Decode(s)
	again := bytes.Clone(s)
	spoil(s)
	if e != api.OK || !same(got, want) {
		t.Fatalf("%v, %d, want %v", got, e, want)
	}
	spoil(got.List[0].Text)
	spoil(got.List[1].List[0].Text)
	inner := got.List[1].List
	clear(inner[2:cap(inner)])
	if !same(inner[1], want.List[1].List[1]) || !same(got.List[3], want.List[3]) || !same(got.List[4], want.List[4]) {
		t.Errorf("parts of one answer share memory: %v", got)
	}
	clear(inner)
	clear(got.List[:cap(got.List)])
	if b, _ := wire.Encode(want); !bytes.Equal(b, again) {
		t.Errorf("another answer has changed: %q", b)
	}
	single := []byte("+abc\r\n")
	r, _, _ := wire.Decode(single)
	spoil(single)
	if string(r.Text) != "abc" {
		t.Errorf("a status keeps its argument: %q", r.Text)
	}
}

func TestR3_NilAndEmptyAreOne(t *testing.T) {
	for _, c := range [][][]byte{{nil}, {{}}} {
		if b, e := wire.Command(c); string(b) != crlf("*1|$0||") || e != api.OK {
			t.Errorf("Command: %q, %d", b, e)
		}
	}
	for _, c := range [][][]byte{nil, {}} {
		if b, e := wire.Command(c); len(b) != 0 || e != api.ErrWireCommand {
			t.Errorf("Command: %q, %d", b, e)
		}
	}
	for _, b := range [][]byte{nil, {}} {
		if words, e := wire.Line(b); len(words) != 0 || e != api.OK {
			t.Errorf("Line: %d words, %d", len(words), e)
		}
		if _, n, e := wire.Decode(b); n != 0 || e != api.ErrWireShort {
			t.Errorf("Decode: %d, %d", n, e)
		}
		for kind, want := range map[int]string{api.ReplyStatus: "+|", api.ReplyError: "-|", api.ReplyBulk: "$0||", api.ReplyNil: "$-1|", api.ReplyInt: ":0|", api.ReplyArray: "*0|", api.ReplyNilArray: "*-1|"} {
			wantEncode(t, api.Reply{Kind: kind, Text: b}, crlf(want))
			wantEncode(t, api.Reply{Kind: kind, Text: b, List: []api.Reply{}}, crlf(want))
		}
	}
}

func TestR4_ZerosBesideAnError(t *testing.T) {
	for _, s := range []string{"a ''x", strings.Repeat("a ", 129), strings.Repeat("a", 1025)} {
		if words, e := wire.Line([]byte(s)); e == api.OK || len(words) != 0 {
			t.Errorf("Line(%.20q): %d words, %d", s, len(words), e)
		}
	}
}
