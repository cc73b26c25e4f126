package server_test

import (
	"bytes"
	"fmt"
	"math/rand"
	"regexp"
	"slices"
	"strings"

	"larder/api"
	"larder/wire"
)

// What becomes whole on a connection, or is done to the server between two steps.
const (
	isCommand = iota
	isBreak
	isHang
	isTick // a step in which nothing becomes whole
	isSync
)

// event is one thing of a script, at a reading.
type event struct {
	kind int
	now  uint64
	conn int
	args [][]byte
}

// player draws scripts.
type player struct{ r *rand.Rand }

func playerOf(seed int) player { return player{rand.New(rand.NewSource(int64(seed)))} }

func (p player) pick(some ...string) string { return some[p.r.Intn(len(some))] }

func (p player) chance(n int) bool { return p.r.Intn(n) == 0 }

// The commands that are drawn. What stands in brackets is drawn too: keys, mostly of a text, list, hash, set or ranked set; an element; a number; a time; a database; a channel; a side; a time to wait.
const onValues = `
SET <t> <e>
SET <k> <e> PX <p>
SET <t> <n>
APPEND <t> <e>
INCRBY <t> <n>
SETRANGE <t> 30 <e>
BITOP XOR <t> <t> <t>
BITFIELD <t> SET u8 0 7 GET i5 3
GETDEL <t>
GET <t>
MSET <t> <e> <t> <n>
MGET <k> <k>
RPUSH <l> <e> <e> <e>
LPUSH <l> <n> <e>
LPUSH <l> <e> <e> <e> <e> <e> <e> <e> <e>
LPOP <l>
RPOP <l> 2
LINSERT <l> BEFORE <e> <e>
LTRIM <l> 1 -2
LMOVE <l> <l> <w> <w>
LMPOP 2 <l> <l> <w> COUNT 2
LRANGE <l> 0 -1
HSET <h> <e> <e> <e> <n>
HINCRBY <h> <e> <n>
HDEL <h> <e>
HGETALL <h>
HSCAN <h> 0
SADD <s> <e> <e> <n>
SREM <s> <e>
SMOVE <s> <s> <e>
SUNIONSTORE <s> <s> <s>
SDIFFSTORE <k> <s> <s>
SINTER <s> <s>
SSCAN <s> 0 COUNT 3
ZADD <z> <n> <e> <n> <e>
ZADD <z> GT CH <n> <e>
ZINCRBY <z> <n> <e>
ZPOPMAX <z>
ZREMRANGEBYRANK <z> 0 1
ZUNIONSTORE <k> 2 <z> <s> WEIGHTS 2 3
ZRANGE <z> 0 -1 WITHSCORES
ZRANGEBYSCORE <z> -inf +inf
ZSCAN <z> 0
PEXPIRE <k> <p>
PERSIST <k>
PTTL <k>
DEL <k> <k>
TYPE <k>
RENAME <k> <k>
COPY <k> <k> REPLACE
COPY <k> <k> DB <d>
MOVE <k> <d>
SWAPDB <d> <d>
SORT <l> ALPHA STORE <k>
SORT <s> BY none GET # GET <t>
KEYS *
SCAN 0 COUNT 5
DBSIZE
MEMORY USED
MEMORY USAGE <k>
TIME
NOPE <k>
GET
INCR <l>`

const onConnections = `
BLPOP <l> <l> <b>
BRPOP <l> <b>
BLMOVE <l> <l> <w> <w> <b>
BZPOPMIN <z> <z> <b>
BZPOPMAX <z> <b>
MULTI
MULTI
EXEC
EXEC
EXEC
EXEC x
SET <t>
DISCARD
WATCH <k> <k>
UNWATCH
SELECT <d>
SELECT 0
PING
PING <e>
ECHO <e>
SUBSCRIBE <c>
PSUBSCRIBE <c>*
UNSUBSCRIBE
UNSUBSCRIBE
PUNSUBSCRIBE
RESET
PUBLISH <c> <e>
PUBLISH <c> <e>
PUBSUB CHANNELS
QUIT
SAVE`

func linesOf(text string) []string { return strings.Split(strings.TrimSpace(text), "\n") }

var gap = regexp.MustCompile("<.>")

func (p player) fill(what string) string {
	switch what {
	case "<e>":
		if p.chance(8) {
			return strings.Repeat(p.pick("x", "\r\n", "*"), p.r.Intn(400))
		}
		return p.pick("a", "b", "c", "7", "-1", "", "\x00", "\r\n", "it's", "\"", "\xff")
	case "<n>":
		return p.pick("0", "1", "-1", "5", "300", "-9223372036854775808", "9223372036854775807", "x")
	case "<p>":
		return fmt.Sprint(p.r.Intn(60))
	case "<b>":
		return p.pick("0", "1", "3", "20")
	case "<d>":
		return p.pick("0", "1", "2", "4")
	case "<c>":
		return p.pick("u", "v", "uv")
	case "<w>":
		return p.pick("LEFT", "right")
	case "<k>":
		return p.pick("t", "l", "h", "s", "z", "t2", "l2", "z2", "other", "")
	}
	return what[1:2] + p.pick("", "", "2")
}

// command draws a command out of some lines.
func (p player) command(lines []string) [][]byte {
	if p.chance(60) {
		return [][]byte{[]byte("FLUSHALL")}
	}
	var args [][]byte
	for _, word := range strings.Fields(p.pick(lines...)) {
		args = append(args, []byte(gap.ReplaceAllStringFunc(word, p.fill)))
	}
	return args
}

// lines draws what a script is about.
func (p player) lines() []string {
	values, conns := linesOf(onValues), linesOf(onConnections)
	switch p.r.Intn(4) {
	case 0:
		return append(values, conns...)
	case 1: // transactions
		return append(values, slicesWithout(slices.Repeat(conns, 3), "SUB", "QUIT", "RESET", "BLPOP", "BLMOVE", "BRPOP", "BZ")...)
	case 2: // waiting
		return append(values, slicesWithout(slices.Repeat(conns, 2), "SUB", "QUIT", "RESET", "MULTI")...)
	}
	// messages
	return append(values, slicesWithout(slices.Repeat(conns, 3), "QUIT", "MULTI", "BLPOP", "BLMOVE", "BRPOP", "BZ")...)
}

func slicesWithout(lines []string, some ...string) []string {
	var kept []string
	for _, line := range lines {
		has := false
		for _, word := range some {
			has = has || strings.Contains(line, word)
		}
		if !has {
			kept = append(kept, line)
		}
	}
	return kept
}

// events draws a script.
func (p player) events(n int) []event {
	var all []event
	now := uint64(p.r.Intn(3))
	conns := 2 + p.r.Intn(7)
	lines := p.lines()
	for range n {
		if p.chance(5) {
			now += uint64(p.r.Intn(8))
		}
		if p.chance(60) {
			now -= min(now, 3)
		}
		x := event{now: now, conn: p.r.Intn(conns)}
		switch k := p.r.Intn(60); {
		case k < 1:
			x.kind = isBreak
		case k < 6:
			x.kind = isHang
		case k < 8:
			x.kind = isTick
		case k < 10:
			x.kind = isSync
		default:
			x.args = p.command(lines)
		}
		all = append(all, x)
	}
	return all
}

// raw draws the bytes of an event of which just the last makes it whole.
func (p player) raw(x event) []byte {
	ahead := []byte(p.pick("", "", "", "\n", "\r\n", "*0\r\n", "*-1\r\n", " \t\r\n"))
	switch x.kind {
	case isCommand:
		if line, ok := p.line(x.args); ok && p.chance(2) {
			return append(ahead, line...)
		}
		b, e := wire.Command(x.args)
		if e != api.OK {
			panic("no command is drawn that cannot be written")
		}
		return append(ahead, b...)
	case isBreak:
		return append(ahead, p.pick("*x", "*129", "*1\r\n$4097", "*2\r\n$1\r\nab", "*1\r\n$1\r\na\rx", "\"a\n", strings.Repeat("y", 1025))...)
	}
	return nil
}

// line writes a command as a line, with quotes where a word needs them; false, if that would be too long.
func (p player) line(args [][]byte) ([]byte, bool) {
	var words [][]byte
	for _, a := range args {
		if len(a) > 0 && !bytes.ContainsAny(a, "\"' \t\r\n\v\f") {
			words = append(words, a)
			continue
		}
		quoted := []byte{'"'}
		for _, c := range a {
			quoted = fmt.Appendf(quoted, "\\x%02x", c)
		}
		words = append(words, append(quoted, '"'))
	}
	line := bytes.Join(words, []byte(p.pick(" ", "  ", "\t")))
	return append(line, p.pick("\n", "\r\n")...), len(line) < api.MaxLine
}
