package wire_test

import (
	"strings"
	"testing"

	"larder/api"
	"larder/wire"
)

func TestExamplesOfRequests(t *testing.T) {
	wantFed(t, crlf("*2|$3|GET|$1|k|"), one("GET", "k"))
	p := wire.New()
	if got, e := fed(p, crlf("*1|$4|PI")); got != "" || e != api.OK || p.Held() != 10 {
		t.Errorf("%s, %d, held %d", got, e, p.Held())
	}
	if got, e := fed(p, crlf("NG|*0|")); got != told([]string{"PING"}) || e != api.OK || p.Held() != 0 {
		t.Errorf("%s, %d, held %d", got, e, p.Held())
	}
	wantFed(t, "PING\r\n", one("PING"))
	wantFed(t, "\n", end{at: -1})
	wantFed(t, `SET a "x y\x41\n"`+"\n", one("SET", "a", "x yA\n"))
	wantFed(t, "a'b c'\n", one("ab c"))
	wantFed(t, "\"\"\n", one(""))
	for _, s := range []string{`"a"b`, `'a`, `"a\`} {
		wantFed(t, s+"\n", breaks(len(s), api.ErrWireQuote))
		wantLine(t, s, api.ErrWireQuote)
	}
	for s, e := range map[string]api.Errno{"*129": api.ErrWireCount, "*01": api.ErrWireCount, "*-0": api.ErrWireCount, "*1\rx": api.ErrWireEnd, "*1|x": api.ErrWireBulk, "*1|$4097": api.ErrWireBulk, "*1|$1|ab": api.ErrWireEnd} {
		s = crlf(s)
		wantFed(t, s, breaks(len(s)-1, e))
	}
	p = wire.New()
	if got, e := fed(p, crlf("*1|$4|PING|*1|$-")); got != told([]string{"PING"}) || e != api.ErrWireBulk {
		t.Errorf("%s, %d", got, e)
	}
	for _, s := range []string{"PING\n", ""} {
		if got, e := fed(p, s); got != "" || e != api.ErrWireBulk || p.Held() != 0 || p.Broken() != api.ErrWireBulk {
			t.Errorf("behind the break: %s, %d, held %d, broken %d", got, e, p.Held(), p.Broken())
		}
	}
	x := strings.Repeat("x", 1024)
	wantFed(t, x+"\n", one(x))
	wantFed(t, x+"x\n", breaks(1024, api.ErrWireLine))
	wantFed(t, strings.Repeat("a ", 129)+"\n", breaks(258, api.ErrWireLine))
}

func TestExamplesOfReplies(t *testing.T) {
	wantEncode(t, api.Reply{Kind: api.ReplyInt, Num: -5}, ":-5\r\n")
	wantEncode(t, api.Reply{Kind: api.ReplyStatus, Text: []byte("OK")}, "+OK\r\n")
	wantEncode(t, api.Reply{Kind: api.ReplyArray, List: []api.Reply{{Kind: api.ReplyNil}, {Kind: api.ReplyArray}}}, crlf("*2|$-1|*0|"))
	wantUnfit(t, api.Reply{Kind: api.ReplyInt, Num: 1, Text: []byte("x")})
	wantUnfit(t, api.Reply{Kind: api.ReplyStatus, Text: []byte("a\n")})
	wantDecode(t, crlf(":-5|:6|"), api.Number(-5), 5)
	for _, s := range []string{":-", "$3|ab", "*2|:1|"} {
		wantNoReply(t, crlf(s), api.ErrWireShort)
	}
	for _, s := range []string{":-0", ":05", "x", "$3|abcd", ":9223372036854775808"} {
		wantNoReply(t, crlf(s), api.ErrWireReply)
	}
	wantNoReply(t, ":922337203685477580", api.ErrWireShort)
	deep := strings.Repeat("*1\r\n", 8)
	wantDecode(t, deep+"*-1\r\n", inside(8, api.NilArray()), 37)
	wantNoReply(t, deep+"*", api.ErrWireShort)
	wantNoReply(t, deep+"*0", api.ErrWireReply)
}
