package wire_test

import (
	"bytes"
	"math"
	"math/big"
	"math/rand"
	"regexp"
	"strconv"
	"strings"
	"testing"

	"larder/api"
	"larder/wire"
)

// same tells whether two replies are one, nil and empty lists being the same.
func same(a, b api.Reply) bool {
	if a.Kind != b.Kind || a.Num != b.Num || !bytes.Equal(a.Text, b.Text) || len(a.List) != len(b.List) {
		return false
	}
	for i := range a.List {
		if !same(a.List[i], b.List[i]) {
			return false
		}
	}
	return true
}

// wantEncode holds Encode's answer against bytes.
func wantEncode(t *testing.T, r api.Reply, want string) {
	t.Helper()
	if b, e := wire.Encode(r); string(b) != want || e != api.OK {
		t.Fatalf("Encode(%.100v) = %.100q, %d, want %.100q", r, b, e, want)
	}
}

// wantUnfit holds Encode to a refusal.
func wantUnfit(t *testing.T, r api.Reply) {
	t.Helper()
	if b, e := wire.Encode(r); len(b) != 0 || e != api.ErrWireReply {
		t.Fatalf("Encode(%.100v) = %.100q, %d, want ErrWireReply", r, b, e)
	}
}

// wantDecode holds Decode's answer against a reply and the number of its bytes.
func wantDecode(t *testing.T, s string, want api.Reply, n int) {
	t.Helper()
	if r, m, e := wire.Decode([]byte(s)); !same(r, want) || m != n || e != api.OK {
		t.Fatalf("Decode(%.100q) = %.100v, %d, %d, want %.100v, %d", s, r, m, e, want, n)
	}
}

// wantNoReply holds Decode to an error, and to zeros beside it.
func wantNoReply(t *testing.T, s string, want api.Errno) {
	t.Helper()
	if r, n, e := wire.Decode([]byte(s)); e != want || n != 0 || !same(r, api.Reply{}) {
		t.Fatalf("Decode(%.100q) = %.100v, %d, %d, want %d", s, r, n, e, want)
	}
}

// wantBoth holds Encode and Decode to one reply and its bytes, all beginnings of these with it.
func wantBoth(t *testing.T, r api.Reply, s string) {
	t.Helper()
	wantEncode(t, r, s)
	for _, behind := range []string{"", "\r\n", "0", "+", "*1\r\n", "\x00"} {
		wantDecode(t, s+behind, r, len(s))
	}
	for i := range s {
		if i < 3000 || i > len(s)-3000 || i%997 == 0 {
			wantNoReply(t, s[:i], api.ErrWireShort)
		}
	}
}

// inside lays a reply inside n arrays.
func inside(n int, r api.Reply) api.Reply {
	for range n {
		r = api.Array([]api.Reply{r})
	}
	return r
}

func TestP8_5_EachKind(t *testing.T) {
	long := strings.Repeat("x", 1024)
	text := strings.Repeat("\r\n$x", 1024)
	for _, c := range []struct {
		r api.Reply
		s string
	}{
		{api.Status("OK"), "+OK|"}, {api.Status(""), "+|"}, {api.Status("+ \x00\xff-"), "+\x2b \x00\xff-|"}, {api.Status(long), "+" + long + "|"},
		{api.Bad(api.BadOOM), "-OOM|"}, {api.Reply{Kind: api.ReplyError}, "-|"}, {api.Reply{Kind: api.ReplyError, Text: []byte(long)}, "-" + long + "|"},
		{api.Number(0), ":0|"}, {api.Number(1), ":1|"}, {api.Number(-1), ":-1|"}, {api.Number(10), ":10|"}, {api.Number(math.MaxInt64), ":9223372036854775807|"}, {api.Number(math.MinInt64), ":-9223372036854775808|"},
		{api.Bulk(nil), "$0||"}, {api.Bulk([]byte("a")), "$1|a|"}, {api.Bulk([]byte("\r\n")), "$2|||"}, {api.Bulk([]byte(text)), "$4096|" + text + "|"},
		{api.Nil(), "$-1|"}, {api.NilArray(), "*-1|"}, {api.Array(nil), "*0|"},
		{api.Array([]api.Reply{api.Number(1), api.Array([]api.Reply{api.Nil(), api.Status("a")}), api.NilArray(), api.Bulk([]byte("b"))}), "*4|:1|*2|$-1|+a|*-1|$1|b|"},
		{inside(8, api.Nil()), strings.Repeat("*1|", 8) + "$-1|"}, {inside(8, api.NilArray()), strings.Repeat("*1|", 8) + "*-1|"}, {inside(7, api.Array(nil)), strings.Repeat("*1|", 7) + "*0|"},
		{inside(7, api.Array([]api.Reply{api.Number(1), api.Number(2)})), strings.Repeat("*1|", 7) + "*2|:1|:2|"},
	} {
		wantBoth(t, c.r, crlf(c.s))
	}
}

func TestP8_5_LongLists(t *testing.T) {
	for _, n := range []int{9, 10, 99, 100, 1000, 9999, 10000, 65535, 65536} {
		list := make([]api.Reply, n)
		for i := range list {
			list[i] = api.Number(int64(i % 10))
		}
		s := "*" + strconv.Itoa(n) + "\r\n" + strings.Repeat(crlf(":0|:1|:2|:3|:4|:5|:6|:7|:8|:9|"), n/10+1)[:4*n]
		wantEncode(t, api.Array(list), s)
		wantDecode(t, s, api.Array(list), len(s))
		wantNoReply(t, s[:len(s)-1], api.ErrWireShort)
		wantNoReply(t, s[:len(s)-4], api.ErrWireShort)
		wantDecode(t, crlf("*1|")+s, inside(1, api.Array(list)), 4+len(s))
	}
	wantUnfit(t, api.Array(make([]api.Reply, 65537)))
	many := make([]api.Reply, 65537)
	for i := range many {
		many[i] = api.Nil()
	}
	wantUnfit(t, api.Array(many))
	wantUnfit(t, inside(1, api.Array(many)))
	wantNoReply(t, "*65537", api.ErrWireReply)
	wantNoReply(t, "*1\r\n*65537", api.ErrWireReply)
	wantNoReply(t, strings.Repeat("*65536\r\n", 8), api.ErrWireShort)
}

func TestP8_5_WhatIsNotFit(t *testing.T) {
	text, list := []byte("x"), []api.Reply{api.Nil()}
	for kind := -2; kind < 10; kind++ {
		usesText := kind == api.ReplyStatus || kind == api.ReplyError || kind == api.ReplyBulk
		fit := kind >= api.ReplyStatus && kind <= api.ReplyNilArray
		for _, c := range []struct {
			r   api.Reply
			fit bool
		}{
			{api.Reply{Kind: kind}, fit},
			{api.Reply{Kind: kind, Text: []byte{}, List: []api.Reply{}}, fit},
			{api.Reply{Kind: kind, Num: 1}, kind == api.ReplyInt},
			{api.Reply{Kind: kind, Text: text}, usesText},
			{api.Reply{Kind: kind, List: list}, kind == api.ReplyArray},
			{api.Reply{Kind: kind, Num: -1, Text: text}, false},
			{api.Reply{Kind: kind, Num: -1, List: list}, false},
			{api.Reply{Kind: kind, Text: text, List: list}, false},
			{api.Reply{Kind: kind, Num: 5, Text: text, List: list}, false},
		} {
			for depth := range 4 {
				if _, e := wire.Encode(inside(depth, c.r)); (e == api.OK) != c.fit {
					t.Errorf("Encode of %v inside %d: %d, fit %v", c.r, depth, e, c.fit)
				}
			}
			if !c.fit {
				wantUnfit(t, c.r)
				wantUnfit(t, api.Array([]api.Reply{api.Nil(), c.r}))
				wantUnfit(t, api.Array([]api.Reply{c.r, api.Nil()}))
				wantUnfit(t, api.Array([]api.Reply{inside(3, api.Nil()), inside(3, c.r)}))
			}
		}
	}
	for _, s := range []string{"\r", "\n", "a\r", "a\n", "\ra", "\na", "a\r\nb", strings.Repeat("x", 1023) + "\n", strings.Repeat("x", 1025), strings.Repeat("x", 5000)} {
		wantUnfit(t, api.Status(s))
		wantUnfit(t, api.Reply{Kind: api.ReplyError, Text: []byte(s)})
	}
	wantUnfit(t, api.Bulk(make([]byte, 4097)))
	wantUnfit(t, api.Bulk(make([]byte, 100000)))
}

func TestP8_1_WhatStandsTooDeep(t *testing.T) {
	for n := 9; n < 30; n++ {
		wantUnfit(t, inside(n, api.Nil()))
		wantUnfit(t, inside(n, api.NilArray()))
		wantUnfit(t, inside(n-1, api.Array(nil)))
	}
	// An array at the brim, with others beside it.
	wantUnfit(t, api.Array([]api.Reply{inside(7, api.Nil()), inside(8, api.Nil())}))
	wantUnfit(t, inside(100000, api.Nil()))
	// Lists that lead back to themselves.
	round := make([]api.Reply, 2)
	round[0] = api.Nil()
	round[1] = api.Reply{Kind: api.ReplyArray, List: round}
	wantUnfit(t, round[1])
	wantUnfit(t, api.Array(round))
	for n := 0; n < 8; n++ {
		s := strings.Repeat("*1\r\n", n)
		wantNoReply(t, s+"*", api.ErrWireShort)
		wantNoReply(t, s+"*1", api.ErrWireShort)
		wantDecode(t, s+"*0\r\n", inside(n, api.Array(nil)), len(s)+4)
	}
	deep := strings.Repeat("*1\r\n", 8)
	for _, s := range []string{"", "*", "*-", "*-1", "*-1\r"} {
		wantNoReply(t, deep+s, api.ErrWireShort)
		wantNoReply(t, crlf("*2|:1|")+deep[4:]+s, api.ErrWireShort)
	}
	for _, s := range []string{"*0", "*1", "*9", "*x", "*\r", "*-0", "*-2", "*-10", "*-1x", "*0\r\n", "*1\r\n*1\r\n"} {
		wantNoReply(t, deep+s, api.ErrWireReply)
	}
	wantNoReply(t, strings.Repeat("*1\r\n", 100000), api.ErrWireReply)
	// Arrays behind one another are not inside one another.
	wide := strings.Repeat(crlf("*1|:1|"), 20)
	wantDecode(t, "*20\r\n"+wide, api.Array(twenty(inside(1, api.Number(1)))), 5+len(wide))
}

// twenty lists a reply twenty times.
func twenty(r api.Reply) []api.Reply {
	l := make([]api.Reply, 20)
	for i := range l {
		l[i] = r
	}
	return l
}

func TestDecodeRefusesAtTheFirstWrongByte(t *testing.T) {
	long := strings.Repeat("x", 1024)
	for _, s := range []string{
		"x", "\r", "\n", "0", " ", "\x00",
		"+\n", "+a\n", "+\rx", "+\r\r", "+a\r\x00", "+" + long + "x", "+" + long + "\n", "-\n", "-" + long + "x",
		":x", ":\r", ":\n", ":+", ": ", ":--", ":-\r", ":-0", ":-x", ":00", ":01", ":0-", ":0x", ":1x", ":1-", ":1 ", ":1\n", ":1\rx", ":9223372036854775808", ":9223372036854775810", ":-9223372036854775809", ":10000000000000000000", ":-10000000000000000000", ":92233720368547758070",
		"$x", "$\r", "$-0", "$-2", "$-10", "$-\r", "$00", "$01", "$4097", "$5000", "$40960", "$-1x", "$-1\rx", "$1\n", "$1\rx", "$0\r\nx", "$0\r\n\n", "$1\r\nab", "$1\r\na\n", "$1\r\na\rb", "$2\r\n\r\n\n",
		"*x", "*\r", "*-0", "*-2", "*-10", "*-\r", "*00", "*01", "*65537", "*65540", "*99999", "*655360", "*-1x", "*-1\rx", "*1\n", "*1\rx", "*1\r\nx", "*1\r\n\r", "*2\r\n:1\r\nx", "*1\r\n$-2",
	} {
		wantNoReply(t, s[:len(s)-1], api.ErrWireShort)
		wantNoReply(t, s, api.ErrWireReply)
		wantNoReply(t, s+"\r\n", api.ErrWireReply)
		wantNoReply(t, "*2\r\n:1\r\n"+s, api.ErrWireReply)
	}
}

// Verdicts on bytes: they begin with a reply, they are the beginning of one, or neither.
const (
	whole = iota
	begun
	wrong
)

var spelling = regexp.MustCompile(`^(0|-?[1-9][0-9]*)$`)

// wantedNumber judges the bytes of a number, CR and LF as the chapter's words say: the number, and how many bytes they are.
func wantedNumber(s, least, most string) (n, size, verdict int) {
	text, behind, ended := strings.Cut(s, "\r")
	low, _ := new(big.Int).SetString(least, 10)
	high, _ := new(big.Int).SetString(most, 10)
	switch v, _ := new(big.Int).SetString(text, 10); {
	case spelling.MatchString(text) && v.Cmp(low) >= 0 && v.Cmp(high) <= 0:
		n = int(v.Int64())
	case !ended && (text == "" || text == "-" && low.Sign() < 0):
		return 0, 0, begun
	default:
		return 0, 0, wrong
	}
	switch {
	case behind == "":
		return 0, 0, begun
	case behind[0] != '\n':
		return 0, 0, wrong
	}
	return n, len(text) + 2, whole
}

// wantedText judges n bytes, CR and LF.
func wantedText(s string, n int) (size, verdict int) {
	switch s = s[min(n, len(s)):]; {
	case s == "" || s == "\r":
		return 0, begun
	case !strings.HasPrefix(s, "\r\n"):
		return 0, wrong
	}
	return n + 2, whole
}

// wanted judges the bytes of a reply inside so many arrays: how many bytes it is.
func wanted(s string, arrays int) (size, verdict int) {
	if s == "" {
		return 0, begun
	}
	switch rest := s[1:]; s[0] {
	case '+', '-':
		n := strings.IndexAny(rest, "\r\n")
		if n < 0 || n > 1024 {
			n = min(len(rest), 1024)
		}
		size, verdict = wantedText(rest, n)
	case ':':
		_, size, verdict = wantedNumber(rest, "-9223372036854775808", "9223372036854775807")
	case '$':
		var n int
		n, size, verdict = wantedNumber(rest, "-1", "4096")
		if verdict == whole && n >= 0 {
			var more int
			more, verdict = wantedText(rest[size:], n)
			size += more
		}
	case '*':
		most := "65536"
		if arrays == 8 {
			most = "-1"
		}
		var n int
		n, size, verdict = wantedNumber(rest, "-1", most)
		for i := 0; i < n && verdict == whole; i++ {
			var more int
			more, verdict = wanted(rest[size:], arrays+1)
			size += more
		}
	default:
		verdict = wrong
	}
	return size + 1, verdict
}

// wantJudged holds Decode against the chapter's words.
func wantJudged(t *testing.T, s string) {
	t.Helper()
	size, verdict := wanted(s, 0)
	switch verdict {
	case begun:
		wantNoReply(t, s, api.ErrWireShort)
	case wrong:
		wantNoReply(t, s, api.ErrWireReply)
	default:
		r, n, e := wire.Decode([]byte(s))
		if n != size || e != api.OK {
			t.Fatalf("Decode(%.100q) = %.100v, %d, %d, want %d bytes", s, r, n, e, size)
		}
		wantEncode(t, r, s[:n])
	}
}

func TestP8_5_EveryShortText(t *testing.T) {
	const letters = "+:-$*012\r\n"
	var try func(s string, n int)
	try = func(s string, n int) {
		wantJudged(t, s)
		if n == 0 {
			return
		}
		for _, c := range letters {
			// What is wrong stays wrong: two bytes more are enough to see it.
			if _, verdict := wanted(s, 0); verdict == wrong {
				n = min(n, 2)
			}
			try(s+string(c), n-1)
		}
	}
	try("", 7)
}

// drawnReply makes a fit reply inside so many arrays.
func drawnReply(r *rand.Rand, arrays int) api.Reply {
	text := make([]byte, r.Intn(6)*r.Intn(6))
	for i := range text {
		text[i] = "ab\x00\xff+-:$*1"[r.Intn(10)]
	}
	switch kind := 1 + r.Intn(7); kind {
	case api.ReplyStatus, api.ReplyError:
		return api.Reply{Kind: kind, Text: text}
	case api.ReplyInt:
		return api.Number(int64(r.Uint64()) >> r.Intn(64))
	case api.ReplyBulk:
		if len(text) > 2 {
			copy(text[r.Intn(len(text)-1):], "\r\n")
		}
		return api.Bulk(text)
	case api.ReplyArray:
		if arrays == 8 {
			return api.NilArray()
		}
		list := make([]api.Reply, r.Intn(4))
		for i := range list {
			list[i] = drawnReply(r, arrays+1)
		}
		return api.Array(list)
	default:
		return api.Reply{Kind: kind}
	}
}

// written writes a fit reply as the chapter's table says.
func written(r api.Reply) string {
	switch r.Kind {
	case api.ReplyStatus:
		return "+" + string(r.Text) + "\r\n"
	case api.ReplyError:
		return "-" + string(r.Text) + "\r\n"
	case api.ReplyInt:
		return ":" + strconv.FormatInt(r.Num, 10) + "\r\n"
	case api.ReplyBulk:
		return "$" + strconv.Itoa(len(r.Text)) + "\r\n" + string(r.Text) + "\r\n"
	case api.ReplyNil:
		return "$-1\r\n"
	case api.ReplyNilArray:
		return "*-1\r\n"
	}
	s := "*" + strconv.Itoa(len(r.List)) + "\r\n"
	for _, one := range r.List {
		s += written(one)
	}
	return s
}

func TestP8_5_DrawnReplies(t *testing.T) {
	r := rand.New(rand.NewSource(5))
	for range 3000 {
		reply := drawnReply(r, 0)
		if r.Intn(4) == 0 {
			reply = inside(r.Intn(8), drawnReply(r, 8))
		}
		s := written(reply)
		wantBoth(t, reply, s)
		// A byte that is changed, left out or laid in.
		b := []byte(s)
		i := r.Intn(len(b))
		c := "\r\n0123456789-+:$*x"[r.Intn(17)]
		wantJudged(t, s[:i]+string([]byte{c})+s[i+1:])
		wantJudged(t, s[:i]+s[i+1:])
		wantJudged(t, s[:i]+string([]byte{c})+s[i:])
	}
}
