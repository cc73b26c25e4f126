package match_test

import (
	"bytes"
	"fmt"
	"testing"

	"larder/api"
	"larder/match"
)

// spoil writes over bytes and their spare room.
func spoil(b []byte) {
	b = b[:cap(b)]
	for i := range b {
		b[i] = 0xee
	}
}

// everything tells all that the package answers of two texts and a number.
func everything(a, b []byte, n int64) string {
	from, count := match.Window(n, -n, len(a))
	lo, e := match.Score(a)
	hi, f := match.Score(b)
	low, g := match.Lex(a)
	high, h := match.Lex(b)
	key, field, star := match.Fill(a, b)
	low.Text, high.Text = append([]byte{}, low.Text...), append([]byte{}, high.Text...)
	given, also := api.LexBound{Text: a}, api.LexBound{Text: b, Open: true}
	return fmt.Sprintln(match.Glob(a, b), from, count, lo, e, hi, f, low, g, high, h, match.InScore(lo, hi, n), match.InLex(given, also, b), match.InLex(also, given, a), match.Fold(a), string(key), string(field), star)
}

var samples = []string{"", "*", "a*->b", "[^a-c]", `\`, "(5", "-inf", "(abc", "[abc", "+", "word", "*->", "-7"}

func TestR1_AnswersHangOnTheArgumentsAlone(t *testing.T) {
	first := map[string]string{}
	for range 3 {
		for _, a := range samples {
			for _, b := range samples {
				got := everything([]byte(a), []byte(b), 3)
				if want, ok := first[a+"\n"+b]; ok && got != want {
					t.Errorf("%q, %q: first %s, then %s", a, b, want, got)
				}
				first[a+"\n"+b] = got
			}
		}
	}
}

func TestR2_ArgumentsStay(t *testing.T) {
	for _, a := range samples {
		for _, b := range samples {
			room := []byte(a + "spare" + b + "room")
			kept := bytes.Clone(room)
			n := len(a) + 5
			everything(room[:len(a)], room[n:n+len(b)], 2)
			if !bytes.Equal(room, kept) {
				t.Fatalf("%q, %q: an argument or the room behind it was changed: %q", a, b, room)
			}
		}
	}
}

func TestR2_LexIsNewMemory(t *testing.T) {
	for _, s := range []string{"[abc", "(abc", "[", "("} {
		arg := []byte(s + "spare")[:len(s)]
		one, _ := match.Lex(arg)
		other, _ := match.Lex(arg)
		spoil(one.Text)
		if string(arg[:len(s)+5]) != s+"spare" || string(other.Text) != s[1:] {
			t.Errorf("Lex(%q): an answer shares memory: %q, %q", s, arg, other.Text)
		}
		spoil(arg)
		if string(other.Text) != s[1:] {
			t.Errorf("Lex(%q) keeps its argument: %q", s, other.Text)
		}
	}
}

func TestR2_FillIsNewMemory(t *testing.T) {
	for _, s := range []string{"*", "*->f", "k*", "k*l->field", "*->", "k", "**"} {
		for _, text := range []string{"", "text"} {
			pattern, arg := []byte(s + "spare")[:len(s)], []byte(text + "spare")[:len(text)]
			key, field, star := match.Fill(pattern, arg)
			again, more, _ := match.Fill(pattern, arg)
			k, f := string(key), string(field)
			spoil(key)
			if string(field) != f {
				t.Errorf("Fill(%q, %q): key and field share memory", s, text)
			}
			spoil(field)
			if string(pattern[:len(s)+5]) != s+"spare" || string(arg[:len(text)+5]) != text+"spare" {
				t.Errorf("Fill(%q, %q): an answer shares memory with an argument", s, text)
			}
			spoil(pattern)
			spoil(arg)
			if string(again) != k || string(more) != f || !star && (k != "" || f != "") {
				t.Errorf("Fill(%q, %q): %q, %q behind spoilt arguments", s, text, again, more)
			}
		}
	}
}

func TestR2_FoldIsNewMemory(t *testing.T) {
	for _, s := range []string{"abc", "ABC", "-", "a long word of many letters, longer than any small room"} {
		arg := []byte(s)
		got := match.Fold(arg)
		want := string(bytes.ToUpper(arg))
		spoil(arg)
		if got != want {
			t.Errorf("Fold(%q) keeps its argument: %q", s, got)
		}
	}
}

func TestR3_NilAndEmptyAreOne(t *testing.T) {
	for _, s := range samples {
		b := []byte(s)
		if everything(nil, b, 1) != everything([]byte{}, b, 1) || everything(b, nil, 1) != everything(b, []byte{}, 1) {
			t.Errorf("beside %q", s)
		}
	}
	if everything(nil, nil, 0) != everything([]byte{}, []byte{}, 0) {
		t.Error("of nothing else")
	}
	for _, text := range [][]byte{nil, {}} {
		if !match.Glob(nil, text) || !match.InLex(api.LexBound{Text: text}, api.LexBound{}, nil) || match.Fold(text) != "" {
			t.Errorf("%v", text)
		}
	}
}

func TestR4_ZerosBesideAnError(t *testing.T) {
	for _, s := range []string{"(5x", "(", "99999999999999999999", "infi", "(+5"} {
		if b, e := match.Score([]byte(s)); b != (api.Bound{}) || e != api.ErrBound {
			t.Errorf("Score(%q) = %v, %d", s, b, e)
		}
	}
	for _, s := range []string{"--", "x(a", "+[", ""} {
		if b, e := match.Lex([]byte(s)); b.Far != 0 || len(b.Text) != 0 || b.Open || e != api.ErrLex {
			t.Errorf("Lex(%q) = %v, %d", s, b, e)
		}
	}
}
