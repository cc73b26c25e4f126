package chain_test

import (
	"bytes"
	"slices"
	"testing"

	"larder/api"
)

// spoil writes over a list and its spare room.
func spoil(b []byte) {
	b = b[:cap(b)]
	for i := range b {
		b[i] = 0xee
	}
}

func TestR2_AnswersAreNewMemory(t *testing.T) {
	h := made(t, 8000)
	want := []string{text(600), "", "abc", "12345678", text(4096)}
	l := listed(t, h, want...)
	first, _ := l.Slice(0, 5)
	var kept [][]byte
	for i := range want {
		b, _ := l.Get(i)
		kept = append(kept, b)
	}
	for _, b := range l.All() {
		spoil(b)
	}
	second, _ := l.Slice(0, 5)
	if !slices.Equal(texts(second), want) || !slices.Equal(texts(kept), want) || !slices.Equal(texts(first), want) {
		t.Error("what All told shares memory with the list or with another answer")
	}
	for i := range second {
		spoil(second[i])
		if !slices.Equal(texts(second[i+1:]), want[i+1:]) {
			t.Errorf("element %d of one answer shares memory with one behind it", i)
		}
	}
	clear(second[:cap(second)])
	wantList(t, h, l, want...)
	if !slices.Equal(texts(kept), want) || !slices.Equal(texts(first), want) {
		t.Error("two answers share memory")
	}
	popped, _ := l.Pop(true)
	wantErrno(t, "Push", l.Push(true, []byte("x")), api.OK)
	for i := range want {
		wantErrno(t, "Set", l.Set(i, []byte("new")), api.OK)
	}
	h.Collect()
	if string(popped) != want[0] || !slices.Equal(texts(first), want) {
		t.Error("an answer changed with the list")
	}
	spoil(popped)
	wantList(t, h, l, "new", "new", "new", "new", "new")
}

func TestR2_RangesShareNoMemory(t *testing.T) {
	h := made(t, 1000)
	l := listed(t, h, "abc", "def")
	all := l.All()
	for range 2 {
		var found []string
		for _, b := range all {
			found = append(found, string(b))
			spoil(b)
		}
		if !slices.Equal(found, []string{"abc", "def"}) {
			t.Errorf("All told %q", found)
		}
	}
}

func TestR2_ArgumentsStayAndAreNotKept(t *testing.T) {
	h := made(t, 2000)
	l := listed(t, h, "a", "abcde", "b")
	room := []byte("abcdefghijklmnop")
	kept := bytes.Clone(room)
	wantErrno(t, "Push", l.Push(true, room[:3]), api.OK)
	wantErrno(t, "Push", l.Push(false, room[:8]), api.OK)
	wantErrno(t, "Insert", l.Insert(2, room[2:4]), api.OK)
	wantErrno(t, "Set", l.Set(1, room[:1]), api.OK)
	wantStrike(t, l, true, 1, string(room[:5]), 1)
	if n, e := l.Strike(true, 1, room[:5]); n != 0 || e != api.OK {
		t.Errorf("Strike: %d, %d", n, e)
	}
	if !bytes.Equal(room, kept) {
		t.Errorf("an argument or the room behind it was changed: %q", room)
	}
	spoil(room)
	wantList(t, h, l, "abc", "a", "cd", "b", "abcdefgh")
}

func TestR3_NilAndEmptyAreOne(t *testing.T) {
	h := made(t, 1000)
	l := listed(t, h)
	wantErrno(t, "Push", l.Push(true, nil), api.OK)
	wantErrno(t, "Push", l.Push(true, []byte{}), api.OK)
	wantErrno(t, "Insert", l.Insert(1, nil), api.OK)
	wantErrno(t, "Set", l.Set(0, nil), api.OK)
	wantList(t, h, l, "", "", "")
	if n, e := l.Strike(true, 2, nil); n != 2 || e != api.OK {
		t.Errorf("Strike of nil: %d, %d", n, e)
	}
	if n, e := l.Strike(true, 2, []byte{}); n != 1 || e != api.OK {
		t.Errorf("Strike of an empty text: %d, %d", n, e)
	}
}
