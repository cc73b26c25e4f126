package board_test

import (
	"fmt"
	"slices"
	"strconv"
	"strings"
	"testing"

	"larder/api"
	"larder/board"
	"larder/space"
)

const (
	seed     = 7
	least    = "-9223372036854775808"
	greatest = "9223372036854775807"
)

func made(t *testing.T, quota int) *space.Space {
	t.Helper()
	s, e := space.New(quota, seed)
	if s == nil || e != api.OK {
		t.Fatalf("New(%d): %v, %d", quota, s, e)
	}
	return s
}

func at(db int, key string) api.Place { return api.Place{DB: db, Key: key} }

func wide(n int) string { return strings.Repeat("w", n) }

// args is a command's arguments as bytes.
func args(words ...string) [][]byte {
	var found [][]byte
	for _, w := range words {
		found = append(found, []byte(w))
	}
	return found
}

// words splits a command at its blanks; a word in double quotes is read as Go reads it.
func words(line string) []string {
	found := strings.Fields(line)
	for i, w := range found {
		if w[0] == '"' {
			found[i], _ = strconv.Unquote(w)
		}
	}
	return found
}

// told writes a reply as a text: a bulk in quotes, an array in brackets, a status as it is, an error behind a '-'.
func told(r api.Reply) string {
	switch r.Kind {
	case api.ReplyInt:
		return strconv.FormatInt(r.Num, 10)
	case api.ReplyBulk:
		return strconv.Quote(string(r.Text))
	case api.ReplyNil:
		return "nil"
	case api.ReplyNilArray:
		return "nil array"
	case api.ReplyStatus:
		return string(r.Text)
	case api.ReplyError:
		return "-" + string(r.Text)
	case api.ReplyArray:
		var l []string
		for _, one := range r.List {
			l = append(l, told(one))
		}
		return "[" + strings.Join(l, " ") + "]"
	}
	return fmt.Sprintf("kind %d", r.Kind)
}

// quoted is how told writes an array of bulks.
func quoted(l []string) string {
	var found []string
	for _, s := range l {
		found = append(found, strconv.Quote(s))
	}
	return "[" + strings.Join(found, " ") + "]"
}

// refusal is how told writes an error.
func refusal(e api.Errno) string { return "-" + api.Text(e) }

// brief cuts a text that is to be read by somebody.
func brief(s string) string {
	if len(s) > 300 {
		return s[:300] + " .."
	}
	return s
}

// row is a command and the reply that it is to have: as told writes it, as an error, or as the words of an array of bulks; nil: whatever it is.
type row struct {
	line string
	want any
}

// bulks is the words of an array of bulks.
type bulks string

func (r row) told() string {
	switch x := r.want.(type) {
	case api.Errno:
		return refusal(x)
	case int:
		return strconv.Itoa(x)
	case bulks:
		return quoted(words(string(x)))
	}
	return r.want.(string)
}

// do gives a command in database 0, or in the one whose number stands behind an '@' ahead of it.
func do(s *space.Space, now uint64, line string) api.Reply {
	l, db := words(line), 0
	if len(l) > 0 && strings.HasPrefix(l[0], "@") {
		db, _ = strconv.Atoi(l[0][1:])
		l = l[1:]
	}
	return board.Do(s, now, db, args(l...))
}

// play gives commands at one reading, one behind the other.
func play(t *testing.T, s *space.Space, now uint64, list ...row) {
	t.Helper()
	for _, r := range list {
		before := picture(s)
		got := told(do(s, now, r.line))
		if r.want != nil && got != r.told() {
			t.Errorf("%s: %s, want %s", brief(r.line), brief(got), brief(r.told()))
		}
		if got[0] == '-' && got[1] > '9' && picture(s) != before {
			t.Errorf("%s is refused, and has changed something", brief(r.line))
		}
	}
}

// show tells a value as a text that is the same for the same values.
func show(v api.Value) string {
	text := fmt.Sprintf("%d %q %q %q", v.Kind, v.Text, v.List, v.Pairs)
	for _, m := range v.Ranked {
		text += fmt.Sprintf(" %d %q", m.Score, m.Member)
	}
	return text
}

// picture tells all that a space holds.
func picture(s *space.Space) string {
	var b strings.Builder
	for db := range api.MaxDB {
		for _, key := range s.Keys(db) {
			v, _ := s.Value(db, key)
			at, _ := s.Deadline(db, key)
			fmt.Fprintf(&b, "%d %q %d: %s\n", db, key, at, show(v))
		}
	}
	return b.String()
}

// textOf is a text.
func textOf(text string) api.Value { return api.Value{Kind: api.ValText, Text: []byte(text)} }

// listOf is a list of the words of a line.
func listOf(line string) api.Value { return api.Value{Kind: api.ValList, List: args(words(line)...)} }

// setOf is a set of the words of a line, which are sorted.
func setOf(line string) api.Value { return api.Value{Kind: api.ValSet, List: args(words(line)...)} }

// hashOf is a hash of the words of a line, each field, which are sorted, with its value behind it.
func hashOf(line string) api.Value {
	v, l := api.Value{Kind: api.ValHash}, words(line)
	for i := 0; i < len(l); i += 2 {
		v.Pairs = append(v.Pairs, api.Pair{Field: []byte(l[i]), Value: []byte(l[i+1])})
	}
	return v
}

// rankOf is a ranked set of the words of a line, each score with its member behind it, in the set's order.
func rankOf(line string) api.Value {
	v, l := api.Value{Kind: api.ValRank}, words(line)
	for i := 0; i < len(l); i += 2 {
		score, e := strconv.ParseInt(l[i], 10, 64)
		if e != nil {
			panic(e)
		}
		v.Ranked = append(v.Ranked, api.Scored{Member: []byte(l[i+1]), Score: score})
	}
	return v
}

// kinds is a value of each kind, by its kind; the first is none.
func kinds() []api.Value {
	return []api.Value{{}, textOf("v"), listOf("b a b"), hashOf("f x g y"), setOf("m n"), rankOf("-3 q 1 a 1 p")}
}

// storeIn lays a value under a key of a database, with a deadline, 0: none.
func storeIn(t *testing.T, s *space.Space, db int, key string, v api.Value, at uint64) {
	t.Helper()
	_, e := s.Run(0, func() api.Reply {
		if e := s.Store(db, []byte(key), v); e != api.OK {
			t.Fatalf("Store: %d", e)
		}
		s.SetDeadline(db, []byte(key), at)
		return api.Reply{}
	})
	if e != api.OK {
		t.Fatalf("Run: %d", e)
	}
}

func store(t *testing.T, s *space.Space, key string, v api.Value, at uint64) {
	t.Helper()
	storeIn(t, s, 0, key, v, at)
}

// wantDeadline holds a key of database 0 against its deadline; 0: none.
func wantDeadline(t *testing.T, s *space.Space, key string, want uint64) {
	t.Helper()
	if got, there := s.Deadline(0, []byte(key)); got != want || !there {
		t.Errorf("the deadline of %s: %d, %v; want %d", key, got, there, want)
	}
}

// wantGone holds that there is no such key in database 0.
func wantGone(t *testing.T, s *space.Space, key string) {
	t.Helper()
	if kind, _ := s.Find(0, []byte(key)); kind != api.ValNone {
		t.Errorf("%s is there", key)
	}
}

// wantAt holds a place against its value and its deadline; of the kind ValNone: that nothing is there.
func wantAt(t *testing.T, s *space.Space, p api.Place, want api.Value, deadline uint64) {
	t.Helper()
	v, _ := s.Value(p.DB, []byte(p.Key))
	at, _ := s.Deadline(p.DB, []byte(p.Key))
	if show(v) != show(want) || at != deadline {
		t.Errorf("%d %s holds %s until %d; want %s until %d", p.DB, brief(p.Key), brief(show(v)), at, brief(show(want)), deadline)
	}
}

// wantValue holds a key of database 0 against its value.
func wantValue(t *testing.T, s *space.Space, key string, want api.Value) {
	t.Helper()
	v, e := s.Value(0, []byte(key))
	if e != api.OK || show(v) != show(want) {
		t.Errorf("%s holds %s, %d; want %s", key, brief(show(v)), e, brief(show(want)))
	}
}

// wantChanged holds the places that the last command changed against these.
func wantChanged(t *testing.T, s *space.Space, want ...api.Place) {
	t.Helper()
	if got := s.Changed(); !slices.Equal(got, want) {
		t.Errorf("changed %v, want %v", got, want)
	}
}

// texts is what a list of bytes holds.
func texts(l [][]byte) []string {
	var found []string
	for _, b := range l {
		found = append(found, string(b))
	}
	return found
}
