package word_test

import (
	"bytes"
	"slices"
	"testing"

	"larder/api"
	"larder/word"
)

// everything answers with all that the package tells of some arguments, as plain data.
func everything(b []byte, w []uint64, n int64) []any {
	head, e1 := word.Head(int(n), len(b), len(w))
	kind, refs, raws, e2 := word.Split(uint64(n))
	bytesOf, e3 := word.Unpack(w, len(b))
	i, e4 := word.Int(b)
	u, e5 := word.Uint(b)
	sum, e6 := word.Add(n, n)
	return []any{
		head, e1, kind, refs, raws, e2, word.Words(int(n)), string(bytesOf), e3, i, e4, u, e5, sum, e6,
		string(word.Text(n)), string(word.Digits(uint64(n))), word.Hash(uint64(n), b), word.Sum(b), len(word.Pack(b)),
	}
}

func TestP1_1_AnswersHangOnTheArgumentsAlone(t *testing.T) {
	type args struct {
		b []byte
		w []uint64
		n int64
	}
	all := []args{
		{[]byte("12"), []uint64{1, 2}, 3}, {nil, nil, 0}, {[]byte("-5"), []uint64{1 << 63}, -1}, {someBytes(100), make([]uint64, 13), 1 << 62}, {[]byte("x"), nil, 0x203},
	}
	first := [][]any{}
	for _, a := range all {
		first = append(first, everything(a.b, a.w, a.n))
	}
	for i := range all {
		k := len(all) - 1 - i
		if again := everything(all[k].b, all[k].w, all[k].n); !slices.Equal(again, first[k]) {
			t.Errorf("arguments %d: first %v, then %v", k, first[k], again)
		}
	}
}

func TestP1_1_NilIsEmpty(t *testing.T) {
	for n := range int64(3) {
		if a, b := everything(nil, nil, n), everything([]byte{}, []uint64{}, n); !slices.Equal(a, b) {
			t.Errorf("nil lists: %v, empty ones: %v", a, b)
		}
	}
}

func TestP1_1_NothingBesideAnError(t *testing.T) {
	if w, e := word.Head(0, 5, 5); w != 0 || e != api.ErrHead {
		t.Errorf("Head: %d, %d", w, e)
	}
	if k, f, s, e := word.Split(1<<60 + 0x203); k != 0 || f != 0 || s != 0 || e != api.ErrHead {
		t.Errorf("Split: %d, %d, %d, %d", k, f, s, e)
	}
	if b, e := word.Unpack([]uint64{1}, 9); len(b) != 0 || e != api.ErrShort {
		t.Errorf("Unpack: %q, %d", b, e)
	}
	if n, e := word.Int([]byte("12x")); n != 0 || e != api.ErrInt {
		t.Errorf("Int: %d, %d", n, e)
	}
	if n, e := word.Int([]byte("99999999999999999999")); n != 0 || e != api.ErrOver {
		t.Errorf("Int: %d, %d", n, e)
	}
	if n, e := word.Uint([]byte("12x")); n != 0 || e != api.ErrInt {
		t.Errorf("Uint: %d, %d", n, e)
	}
	if n, e := word.Add(1<<62, 1<<62); n != 0 || e != api.ErrOver {
		t.Errorf("Add: %d, %d", n, e)
	}
}

// spoil writes over a list and its spare room.
func spoil[T byte | uint64](l []T) {
	l = l[:cap(l)]
	for i := range l {
		l[i] = 0xee
	}
}

// fresh makes an answer three times, spoiling it in between, and tells whether the others stayed as they were.
func fresh[T byte | uint64](answer func() []T) bool {
	before := answer()
	want := slices.Clone(before)
	spoil(answer())
	return slices.Equal(before, want) && slices.Equal(answer(), want)
}

func TestP1_13_AnswersAreNewMemory(t *testing.T) {
	words := []uint64{1, 2, 3}
	text := []byte("some text of more than a word")
	for name, ok := range map[string]bool{
		"Pack":       fresh(func() []uint64 { return word.Pack(text) }),
		"Pack(nil)":  fresh(func() []uint64 { return word.Pack(nil) }),
		"Unpack":     fresh(func() []byte { b, _ := word.Unpack(words, 20); return b }),
		"Unpack 0":   fresh(func() []byte { b, _ := word.Unpack(words, 0); return b }),
		"Text":       fresh(func() []byte { return word.Text(-1234567) }),
		"Text(7)":    fresh(func() []byte { return word.Text(7) }),
		"Text(42)":   fresh(func() []byte { return word.Text(42) }),
		"Digits":     fresh(func() []byte { return word.Digits(1<<64 - 1) }),
		"Digits(0)":  fresh(func() []byte { return word.Digits(0) }),
		"Digits(42)": fresh(func() []byte { return word.Digits(42) }),
	} {
		if !ok {
			t.Errorf("%s: an answer was changed through another", name)
		}
	}
	if !slices.Equal(words, []uint64{1, 2, 3}) || string(text) != "some text of more than a word" {
		t.Error("an argument was changed through an answer")
	}
}

func TestP1_13_ArgumentsStayAsTheyAre(t *testing.T) {
	for _, n := range []int{0, 1, 8, 13} {
		room := someBytes(40)
		words := word.Pack(room)
		keptRoom, keptWords := slices.Clone(room), slices.Clone(words)
		everything(room[:n], words[:n/4], 5)
		if !bytes.Equal(room, keptRoom) || !slices.Equal(words, keptWords) {
			t.Errorf("%d bytes: an argument or its spare room was changed", n)
		}
	}
}

func TestP1_13_ArgumentsAreNotKept(t *testing.T) {
	b := []byte("12345678")
	w := word.Pack(b)
	back, _ := word.Unpack(w, 8)
	spoil(b)
	if w[0] != 0x3837363534333231 {
		t.Errorf("Pack's answer changed with its argument: %#x", w)
	}
	spoil(w)
	if string(back) != "12345678" {
		t.Errorf("Unpack's answer changed with its argument: %q", back)
	}
}
