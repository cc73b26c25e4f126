package rank_test

import (
	"bytes"
	"testing"

	"larder/api"
)

// spoil writes over a list and its spare room.
func spoil(b []byte) {
	b = b[:cap(b)]
	for i := range b {
		b[i] = 0xee
	}
}

func TestR2_AnswersAreNewMemory(t *testing.T) {
	h := made(t, 20000)
	list := ordered(append(some(), member{text(4096), 3, 8}, member{"12345678", 3, 1}))
	r := ranked(t, h, 5, list...)
	kept := r.Slice(0, most)
	check := func(what string) {
		t.Helper()
		for i, m := range list {
			if !same(kept[i], m) {
				t.Fatalf("%s: an answer has changed at place %d", what, i)
			}
		}
	}
	for from := range list {
		told := r.Slice(from, most)
		for i := range told {
			spoil(told[i].Member)
			for j := i + 1; j < len(told); j++ {
				if !same(told[j], list[from+j]) {
					t.Fatalf("places %d and %d of one answer share memory", from+i, from+j)
				}
			}
		}
		clear(told[:cap(told)])
		check("an answer is written over")
		wantSet(t, r, list...)
	}
	for _, m := range list {
		wantRemove(t, r, m.text, true, api.OK)
	}
	h.Collect()
	check("the set is emptied")
}

func TestR2_ArgumentsStayAndAreNotKept(t *testing.T) {
	h := made(t, 2000)
	r := ranked(t, h, 5, member{"abcde", 1, 2})
	room := []byte("abcdefghijklmnop")
	kept := bytes.Clone(room)
	r.Add(room[:3], 1, 2)
	r.Add(room[:8], 2, 3)
	r.Add(room[:3], 4, 4)
	r.Add(room[:3], 4, 5)
	r.Add(room[:3], 4, 9)
	r.Score(room[:3])
	r.Place(room[:11])
	r.Before(2, room[:7])
	r.Remove(room[:5])
	r.Remove(room[:6])
	if !bytes.Equal(room, kept) {
		t.Errorf("an argument or the room behind it was changed: %q", room)
	}
	spoil(room)
	wantSet(t, r, member{"abc", 4, 4}, member{"abcdefgh", 2, 3})
}

func TestR3_NilAndEmptyAreOne(t *testing.T) {
	h := made(t, 1000)
	r := ranked(t, h, 5, member{"a", 0, 2})
	for _, empty := range [][]byte{nil, {}} {
		if added, e := r.Add(empty, 0, 1); !added || e != api.OK {
			t.Errorf("Add: %v, %d", added, e)
		}
		for i, same := range [][]byte{nil, {}} {
			if added, e := r.Add(same, int64(i+1), 1); added || e != api.OK {
				t.Errorf("Add again: %v, %d", added, e)
			}
			if score, ok := r.Score(same); score != int64(i+1) || !ok {
				t.Errorf("Score: %d, %v", score, ok)
			}
			if place, ok := r.Place(same); place != 1 || !ok {
				t.Errorf("Place: %d, %v", place, ok)
			}
			if n := r.Before(int64(i+1), same); n != 1 {
				t.Errorf("Before: %d", n)
			}
		}
		if was, e := r.Remove(make([]byte, 0)); !was || e != api.OK {
			t.Errorf("Remove: %v, %d", was, e)
		}
		if was, e := r.Remove(nil); was || e != api.OK {
			t.Errorf("Remove again: %v, %d", was, e)
		}
	}
}
