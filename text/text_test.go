package text_test

import (
	"fmt"
	"strconv"
	"strings"
	"testing"

	"larder/api"
	"larder/space"
	"larder/text"
)

const seed = 7

func made(t *testing.T, quota int) *space.Space {
	t.Helper()
	s, e := space.New(quota, seed)
	if s == nil || e != api.OK {
		t.Fatalf("New(%d): %v, %d", quota, s, e)
	}
	return s
}

func at(db int, key string) api.Place { return api.Place{DB: db, Key: key} }

func wide(n int) string { return strings.Repeat("w", n) }

// args is a command's arguments as bytes.
func args(words ...string) [][]byte {
	var found [][]byte
	for _, w := range words {
		found = append(found, []byte(w))
	}
	return found
}

// words splits a command at its blanks; a word in double quotes is read as Go reads it.
func words(line string) []string {
	found := strings.Fields(line)
	for i, w := range found {
		if w[0] == '"' {
			found[i], _ = strconv.Unquote(w)
		}
	}
	return found
}

// told writes a reply as a text: a bulk in quotes, an array in brackets, a status as it is, an error behind a '-'.
func told(r api.Reply) string {
	switch r.Kind {
	case api.ReplyInt:
		return strconv.FormatInt(r.Num, 10)
	case api.ReplyBulk:
		return strconv.Quote(string(r.Text))
	case api.ReplyNil:
		return "nil"
	case api.ReplyStatus:
		return string(r.Text)
	case api.ReplyError:
		return "-" + string(r.Text)
	case api.ReplyArray:
		var l []string
		for _, one := range r.List {
			l = append(l, told(one))
		}
		return "[" + strings.Join(l, " ") + "]"
	}
	return fmt.Sprintf("kind %d", r.Kind)
}

// refusal is how told writes an error.
func refusal(e api.Errno) string { return "-" + api.Text(e) }

// brief cuts a text that is to be read by somebody.
func brief(s string) string {
	if len(s) > 300 {
		return s[:300] + " .."
	}
	return s
}

// row is a command and the reply that it is to have: as told writes it, or as an error.
type row struct {
	line string
	want any
}

func (r row) told() string {
	switch x := r.want.(type) {
	case api.Errno:
		return refusal(x)
	case int:
		return strconv.Itoa(x)
	}
	return r.want.(string)
}

// play gives commands in database 0 at one reading, one behind the other.
func play(t *testing.T, s *space.Space, now uint64, rows ...row) {
	t.Helper()
	for _, r := range rows {
		before := picture(s)
		got := told(text.Do(s, now, 0, args(words(r.line)...)))
		if got != r.told() {
			t.Errorf("%s: %s, want %s", brief(r.line), brief(got), brief(r.told()))
		}
		if got[0] == '-' && got[1] > '9' && picture(s) != before {
			t.Errorf("%s is refused, and has changed something", brief(r.line))
		}
	}
}

// show tells a value as a text that is the same for the same values.
func show(v api.Value) string {
	return fmt.Sprintf("%d %q %q %q %v", v.Kind, v.Text, v.List, v.Pairs, v.Ranked)
}

// picture tells all that a space holds.
func picture(s *space.Space) string {
	var b strings.Builder
	for db := range api.MaxDB {
		for _, key := range s.Keys(db) {
			v, _ := s.Value(db, key)
			deadline, _ := s.Deadline(db, key)
			fmt.Fprintf(&b, "%d %q %d: %s\n", db, key, deadline, show(v))
		}
	}
	return b.String()
}

// others is a value of each kind that is no text.
func others() []api.Value {
	one := [][]byte{[]byte("x")}
	return []api.Value{
		{Kind: api.ValList, List: one},
		{Kind: api.ValHash, Pairs: []api.Pair{{Field: one[0], Value: one[0]}}},
		{Kind: api.ValSet, List: one},
		{Kind: api.ValRank, Ranked: []api.Scored{{Member: one[0], Score: 1}}},
	}
}

// store lays a value under a key of database 0, with a deadline, 0: none.
func store(t *testing.T, s *space.Space, key string, v api.Value, deadline uint64) {
	t.Helper()
	_, e := s.Run(0, func() api.Reply {
		if e := s.Store(0, []byte(key), v); e != api.OK {
			t.Fatalf("Store: %d", e)
		}
		s.SetDeadline(0, []byte(key), deadline)
		return api.Reply{}
	})
	if e != api.OK {
		t.Fatalf("Run: %d", e)
	}
}

// wantDeadline holds a key of database 0 against its deadline; 0: none.
func wantDeadline(t *testing.T, s *space.Space, key string, want uint64) {
	t.Helper()
	if got, there := s.Deadline(0, []byte(key)); got != want || !there {
		t.Errorf("the deadline of %s: %d, %v; want %d", key, got, there, want)
	}
}

// wantGone holds that there is no such key in database 0.
func wantGone(t *testing.T, s *space.Space, key string) {
	t.Helper()
	if kind, _ := s.Find(0, []byte(key)); kind != api.ValNone {
		t.Errorf("%s is there", key)
	}
}

// wantText holds a key of database 0 against its text.
func wantText(t *testing.T, s *space.Space, key, want string) {
	t.Helper()
	v, e := s.Value(0, []byte(key))
	if e != api.OK || v.Kind != api.ValText || string(v.Text) != want {
		t.Errorf("%s holds %s, %d; want %q", key, brief(show(v)), e, brief(want))
	}
}
