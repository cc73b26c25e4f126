package order_test

import (
	"fmt"
	"slices"
	"strconv"
	"strings"
	"testing"

	"larder/api"
	"larder/order"
	"larder/space"
)

const (
	seed     = 7
	least    = "-9223372036854775808"
	greatest = "9223372036854775807"
)

func made(t *testing.T, quota int) *space.Space {
	t.Helper()
	s, e := space.New(quota, seed)
	if s == nil || e != api.OK {
		t.Fatalf("New(%d): %v, %d", quota, s, e)
	}
	return s
}

func at(db int, key string) api.Place { return api.Place{DB: db, Key: key} }

func wide(n int) string { return strings.Repeat("w", n) }

// args is a command's arguments as bytes.
func args(words ...string) [][]byte {
	var found [][]byte
	for _, w := range words {
		found = append(found, []byte(w))
	}
	return found
}

// words splits a command at its blanks; a word in double quotes is read as Go reads it.
func words(line string) []string {
	found := strings.Fields(line)
	for i, w := range found {
		if w[0] == '"' {
			found[i], _ = strconv.Unquote(w)
		}
	}
	return found
}

// told writes a reply as a text: a bulk in quotes, an array in brackets, a status as it is, an error behind a '-'.
func told(r api.Reply) string {
	switch r.Kind {
	case api.ReplyInt:
		return strconv.FormatInt(r.Num, 10)
	case api.ReplyBulk:
		return strconv.Quote(string(r.Text))
	case api.ReplyNil:
		return "nil"
	case api.ReplyNilArray:
		return "nil array"
	case api.ReplyStatus:
		return string(r.Text)
	case api.ReplyError:
		return "-" + string(r.Text)
	case api.ReplyArray:
		var l []string
		for _, one := range r.List {
			l = append(l, told(one))
		}
		return "[" + strings.Join(l, " ") + "]"
	}
	return fmt.Sprintf("kind %d", r.Kind)
}

// quoted is how told writes an array of bulks.
func quoted(l []string) string {
	var found []string
	for _, s := range l {
		found = append(found, strconv.Quote(s))
	}
	return "[" + strings.Join(found, " ") + "]"
}

// refusal is how told writes an error.
func refusal(e api.Errno) string { return "-" + api.Text(e) }

// brief cuts a text that is to be read by somebody.
func brief(s string) string {
	if len(s) > 300 {
		return s[:300] + " .."
	}
	return s
}

// row is a command and the reply that it is to have: as told writes it, as an error, or as the words of an array of bulks.
type row struct {
	line string
	want any
}

// bulks is the words of an array of bulks.
type bulks string

func (r row) told() string {
	switch x := r.want.(type) {
	case api.Errno:
		return refusal(x)
	case int:
		return strconv.Itoa(x)
	case bulks:
		return quoted(words(string(x)))
	}
	return r.want.(string)
}

// do gives a command in database 0.
func do(s *space.Space, now uint64, line string) api.Reply {
	return order.Do(s, now, 0, args(words(line)...))
}

// play gives commands in database 0 at one reading, one behind the other.
func play(t *testing.T, s *space.Space, now uint64, list ...row) {
	t.Helper()
	for _, r := range list {
		before := picture(s)
		got := told(do(s, now, r.line))
		if got != r.told() {
			t.Errorf("%s: %s, want %s", brief(r.line), brief(got), brief(r.told()))
		}
		if got[0] == '-' && got[1] > '9' && picture(s) != before {
			t.Errorf("%s is refused, and has changed something", brief(r.line))
		}
	}
}

// turn is a command on the ranked set of the key k, which has a deadline: the value ahead of it, the command, its reply, the value behind it. The empty value is none.
type turn struct {
	value, line string
	want        any
	left        string
}

const deadline = 50

// playAll plays each turn in a space of its own. Besides k there are a ranked set z of 1 q 2 r, a set s of q x, and a text t.
func playAll(t *testing.T, turns ...turn) {
	t.Helper()
	for _, c := range turns {
		s := made(t, 4000)
		if c.value != "" {
			store(t, s, "k", rankOf(c.value), deadline)
		}
		store(t, s, "z", rankOf("1 q 2 r"), 0)
		store(t, s, "s", setOf("q x"), 0)
		store(t, s, "t", api.Value{Kind: api.ValText, Text: []byte("v")}, 0)
		play(t, s, 0, row{c.line, c.want})
		t.Run(brief(c.line), func(t *testing.T) {
			t.Helper()
			if slices.Contains(s.Changed(), at(0, "k")) == (c.value == c.left) {
				t.Errorf("changed %v", s.Changed())
			}
			if c.left == "" {
				wantGone(t, s, "k")
				return
			}
			wantValue(t, s, "k", rankOf(c.left))
			if c.value != "" {
				wantDeadline(t, s, "k", deadline)
			} else {
				wantDeadline(t, s, "k", 0)
			}
		})
	}
}

// show tells a value as a text that is the same for the same values.
func show(v api.Value) string {
	text := fmt.Sprintf("%d %q %q %q", v.Kind, v.Text, v.List, v.Pairs)
	for _, m := range v.Ranked {
		text += fmt.Sprintf(" %d %q", m.Score, m.Member)
	}
	return text
}

// picture tells all that a space holds.
func picture(s *space.Space) string {
	var b strings.Builder
	for db := range api.MaxDB {
		for _, key := range s.Keys(db) {
			v, _ := s.Value(db, key)
			at, _ := s.Deadline(db, key)
			fmt.Fprintf(&b, "%d %q %d: %s\n", db, key, at, show(v))
		}
	}
	return b.String()
}

// setOf is a set of the words of a line, which are sorted.
func setOf(line string) api.Value {
	return api.Value{Kind: api.ValSet, List: args(words(line)...)}
}

// rankOf is a ranked set of the words of a line, each score with its member behind it, in the set's order.
func rankOf(line string) api.Value {
	v, l := api.Value{Kind: api.ValRank}, words(line)
	for i := 0; i < len(l); i += 2 {
		score, e := strconv.ParseInt(l[i], 10, 64)
		if e != nil {
			panic(e)
		}
		v.Ranked = append(v.Ranked, api.Scored{Member: []byte(l[i+1]), Score: score})
	}
	return v
}

// others is a value of each kind but one.
func others(kind int) []api.Value {
	one := [][]byte{[]byte("x")}
	all := []api.Value{
		{Kind: api.ValText, Text: one[0]},
		{Kind: api.ValText},
		{Kind: api.ValList, List: one},
		{Kind: api.ValHash, Pairs: []api.Pair{{Field: one[0], Value: one[0]}}},
		{Kind: api.ValSet, List: one},
		{Kind: api.ValRank, Ranked: []api.Scored{{Member: one[0], Score: 1}}},
	}
	return slices.DeleteFunc(all, func(v api.Value) bool { return v.Kind == kind })
}

// store lays a value under a key of database 0, with a deadline, 0: none.
func store(t *testing.T, s *space.Space, key string, v api.Value, at uint64) {
	t.Helper()
	_, e := s.Run(0, func() api.Reply {
		if e := s.Store(0, []byte(key), v); e != api.OK {
			t.Fatalf("Store: %d", e)
		}
		s.SetDeadline(0, []byte(key), at)
		return api.Reply{}
	})
	if e != api.OK {
		t.Fatalf("Run: %d", e)
	}
}

// wantDeadline holds a key of database 0 against its deadline; 0: none.
func wantDeadline(t *testing.T, s *space.Space, key string, want uint64) {
	t.Helper()
	if got, there := s.Deadline(0, []byte(key)); got != want || !there {
		t.Errorf("the deadline of %s: %d, %v; want %d", key, got, there, want)
	}
}

// wantGone holds that there is no such key in database 0.
func wantGone(t *testing.T, s *space.Space, key string) {
	t.Helper()
	if kind, _ := s.Find(0, []byte(key)); kind != api.ValNone {
		t.Errorf("%s is there", key)
	}
}

// wantValue holds a key of database 0 against its value.
func wantValue(t *testing.T, s *space.Space, key string, want api.Value) {
	t.Helper()
	v, e := s.Value(0, []byte(key))
	if e != api.OK || show(v) != show(want) {
		t.Errorf("%s holds %s, %d; want %s", key, brief(show(v)), e, brief(show(want)))
	}
}

// wantChanged holds the places of database 0 that the last command changed against these keys.
func wantChanged(t *testing.T, s *space.Space, keys ...string) {
	t.Helper()
	var want []api.Place
	for _, key := range keys {
		want = append(want, at(0, key))
	}
	if got := s.Changed(); fmt.Sprint(got) != fmt.Sprint(want) {
		t.Errorf("changed %v, want %v", got, want)
	}
}
