package record_test

import (
	"encoding/binary"
	"fmt"
	"strconv"
	"strings"
	"testing"

	"larder/api"
	"larder/board"
	"larder/record"
	"larder/space"
	"larder/word"
)

const (
	seed     = 7
	latest   = 1 << 52   // MaxTime
	greatest = 1<<63 - 1 // the last number that an entry may have
)

func made(t *testing.T, quota int) *space.Space {
	t.Helper()
	s, e := space.New(quota, seed)
	if s == nil || e != api.OK {
		t.Fatalf("New(%d): %v, %d", quota, s, e)
	}
	return s
}

// args is a command's arguments as bytes.
func args(words ...string) [][]byte {
	var found [][]byte
	for _, w := range words {
		found = append(found, []byte(w))
	}
	return found
}

// act reads a command: its words, split at blanks, one in double quotes as Go reads it; behind an '@' ahead of them the database, which is else 0.
func act(line string) api.Act {
	words := strings.Fields(line)
	var found api.Act
	if strings.HasPrefix(words[0], "@") {
		found.DB, _ = strconv.Atoi(words[0][1:])
		words = words[1:]
	}
	for _, w := range words {
		if w[0] == '"' {
			w, _ = strconv.Unquote(w)
		}
		found.Args = append(found.Args, []byte(w))
	}
	return found
}

func entry(seq int64, now uint64, lines ...string) api.Entry {
	e := api.Entry{Seq: seq, Now: now}
	for _, l := range lines {
		e.Group = append(e.Group, act(l))
	}
	return e
}

// line is the record of an entry that may be written.
func line(t *testing.T, e api.Entry) []byte {
	t.Helper()
	b, wrong := record.Line(e)
	if wrong != api.OK || len(b) == 0 {
		t.Fatalf("Line of number %d: %d bytes, %d", e.Seq, len(b), wrong)
	}
	return b
}

// try gives a command.
func try(s *space.Space, now uint64, line string) api.Reply {
	a := act(line)
	return board.Do(s, now, a.DB, a.Args)
}

// give gives commands, none of which may be refused.
func give(t *testing.T, s *space.Space, now uint64, lines ...string) {
	t.Helper()
	for _, l := range lines {
		if r := try(s, now, l); r.Kind == api.ReplyError {
			t.Fatalf("%s: %s", l, r.Text)
		}
	}
}

// given is a space in which some commands have been given.
func given(t *testing.T, quota int, now uint64, lines ...string) *space.Space {
	t.Helper()
	s := made(t, quota)
	give(t, s, now, lines...)
	return s
}

// picture tells all that a space holds, but for its clock.
func picture(s *space.Space) string {
	var b strings.Builder
	for db := range 4 {
		for _, key := range s.Keys(db) {
			v, e := s.Value(db, key)
			at, there := s.Deadline(db, key)
			fmt.Fprintf(&b, "%d %q %d %v %d %d: %q %q %q ", db, key, at, there, e, v.Kind, v.Text, v.List, v.Pairs)
			for _, m := range v.Ranked {
				fmt.Fprintf(&b, "%d %q ", m.Score, m.Member)
			}
			b.WriteString("\n")
		}
	}
	return b.String()
}

func loaded(t *testing.T, quota int, snap []byte) (*space.Space, int64) {
	t.Helper()
	s, seq, e := record.Load(quota, seed, snap)
	if s == nil || e != api.OK {
		t.Fatalf("Load(%d, %d bytes): %v, %d", quota, len(snap), s, e)
	}
	return s, seq
}

func wantRefused(t *testing.T, what string, quota int, snap []byte, want api.Errno) {
	t.Helper()
	if s, seq, e := record.Load(quota, seed, snap); s != nil || seq != 0 || e != want {
		t.Errorf("%s: Load(%d, %d bytes): %v, %d, %d, want %d", what, quota, len(snap), s != nil, seq, e, want)
	}
	if s, last, good, e := record.Recover(quota, seed, snap, []byte("x")); s != nil || last != 0 || good != 0 || e != want {
		t.Errorf("%s: Recover(%d, %d bytes): %v, %d, %d, %d, want %d", what, quota, len(snap), s != nil, last, good, e, want)
	}
}

// u8, u4 and text are how the chapter writes them.
func u8(n uint64) string { return string(binary.BigEndian.AppendUint64(nil, n)) }

func u4(n int) string { return string(binary.BigEndian.AppendUint32(nil, uint32(n))) }

func text(s string) string { return u4(len(s)) + s }

// counted is some texts behind their number.
func counted(parts ...string) string {
	var b strings.Builder
	b.WriteString(u4(len(parts)))
	for _, p := range parts {
		b.WriteString(text(p))
	}
	return b.String()
}

func sumOf(s string) string { return u8(word.Sum([]byte(s))) }

// bodyOf and framed are a second writing of records, by the chapter's words.
func bodyOf(e api.Entry) string {
	var b strings.Builder
	b.WriteString(u8(uint64(e.Seq)) + u8(e.Now) + u4(len(e.Group)))
	for _, a := range e.Group {
		b.WriteString(string([]byte{byte(a.DB)}) + u4(len(a.Args)))
		for _, arg := range a.Args {
			b.WriteString(text(string(arg)))
		}
	}
	return b.String()
}

func framed(body string) string {
	head := "\xaa" + u8(uint64(len(body)))
	return head + sumOf(head) + body + sumOf(body) + "\x55"
}

// held is what a snapshot tells of a key, its value as bytes.
type held struct {
	key      string
	deadline uint64
	kind     byte
	value    string
}

// shot is a second writing of snapshots, of right ones and of wrong ones.
type shot struct {
	seq, clock uint64
	keys       [4][]held
}

func (x shot) open() string {
	var b strings.Builder
	b.WriteString("LARDER01" + u8(x.seq) + u8(x.clock))
	for _, keys := range x.keys {
		b.WriteString(u4(len(keys)))
		for _, h := range keys {
			b.WriteString(text(h.key) + u8(h.deadline) + string([]byte{h.kind}) + h.value)
		}
	}
	return b.String()
}

func closed(open string) []byte { return []byte(open + sumOf(open)) }

func (x shot) bytes() []byte { return closed(x.open()) }

// ranked is the value of a ranked set: a score and a member in turn.
func ranked(parts ...string) string {
	var b strings.Builder
	b.WriteString(u4(len(parts) / 2))
	for i := 0; i < len(parts); i += 2 {
		n, _ := strconv.ParseInt(parts[i], 10, 64)
		b.WriteString(u8(uint64(n)) + text(parts[i+1]))
	}
	return b.String()
}

// pairs is the value of a hash: a field and its value in turn.
func pairs(parts ...string) string {
	return u4(len(parts)/2) + counted(parts...)[4:]
}

// rich is commands behind which a space has keys of all kinds, and rich's shot what it then holds, at the clock 7.
var rich = []string{
	"SET k abc PX 13", "SET e \"\"", "RPUSH l b a b", "HSET h y 2 x 1 \"\" \"\"", "SADD s n m \"\"", "ZADD z 2 q 2 p -1 r 9223372036854775807 m",
	"@2 SET \"\" x", "@2 SET \"\\xff\" \"\\x00\\x00\"", "@3 RPUSH l \"\"", "@3 PEXPIREAT l 4503599627370496",
}

func richShot() shot {
	return shot{9, 7, [4][]held{
		{
			{"e", 0, 1, text("")},
			{"h", 0, 3, pairs("", "", "x", "1", "y", "2")},
			{"k", 20, 1, text("abc")},
			{"l", 0, 2, counted("b", "a", "b")},
			{"s", 0, 4, counted("", "m", "n")},
			{"z", 0, 5, ranked("-1", "r", "2", "p", "2", "q", "9223372036854775807", "m")},
		},
		nil,
		{{"", 0, 1, text("x")}, {"\xff", 0, 1, text("\x00\x00")}},
		{{"l", latest, 2, counted("")}},
	}}
}
