package table_test

import (
	"bytes"
	"slices"
	"testing"

	"larder/api"
)

// spoil writes over a list and its spare room.
func spoil(b []byte) {
	b = b[:cap(b)]
	for i := range b {
		b[i] = 0xee
	}
}

func TestR2_AnswersAreNewMemory(t *testing.T) {
	h := made(t, 20000)
	keys := []string{text(600), "", "abc", "12345678", text(4096), "x", "y"}
	m := tabled(t, h, 5, keys...)
	order, sorted := byHash(5, keys), slices.Sorted(slices.Values(keys))
	first := m.Keys()
	_, scanned := m.Scan(0, most)
	var kept [][]byte
	for key := range m.All() {
		kept = append(kept, key)
	}
	check := func(what string) {
		t.Helper()
		if !slices.Equal(texts(first), sorted) || !slices.Equal(texts(scanned), order) || !slices.Equal(texts(kept), order) {
			t.Errorf("%s: an answer has changed", what)
		}
		wantKeys(t, m, 5, keys...)
	}
	for key := range m.All() {
		spoil(key)
	}
	check("what All told is written over")
	for _, list := range [][][]byte{m.Keys(), scan(m.Scan(0, most))} {
		want := texts(list)
		for i := range list {
			spoil(list[i])
			if !slices.Equal(texts(list[i+1:]), want[i+1:]) {
				t.Errorf("key %d of one answer shares memory with one behind it", i)
			}
		}
		clear(list[:cap(list)])
		check("an answer is written over")
	}
	for _, key := range keys {
		m.Delete([]byte(key))
	}
	h.Collect()
	keys = nil
	check("the table is emptied")
}

// scan tells the keys of a Scan alone.
func scan(_ uint64, list [][]byte) [][]byte { return list }

func TestR2_RangesShareNoMemory(t *testing.T) {
	h := made(t, 1000)
	m := tabled(t, h, 5, "abc", "def")
	all := m.All()
	for range 2 {
		var found []string
		for key := range all {
			found = append(found, string(key))
			spoil(key)
		}
		if !slices.Equal(found, byHash(5, []string{"abc", "def"})) {
			t.Errorf("All told %q", found)
		}
	}
}

func TestR2_ArgumentsStayAndAreNotKept(t *testing.T) {
	h := made(t, 2000)
	m := tabled(t, h, 5, "abcde")
	room := []byte("abcdefghijklmnop")
	kept := bytes.Clone(room)
	m.Put(room[:3], 0, 1, 2)
	m.Put(room[:8], 0, 3, 4)
	m.Put(room[:3], 0, 5, 6)
	m.Get(room[:3])
	m.Get(room[:11])
	m.Delete(room[:5])
	m.Delete(room[:6])
	if !bytes.Equal(room, kept) {
		t.Errorf("an argument or the room behind it was changed: %q", room)
	}
	spoil(room)
	wantKeys(t, m, 5, "abc", "abcdefgh")
	wantGet(t, m, "abc", 0, 5, 6, api.OK)
}

func TestR3_NilAndEmptyAreOne(t *testing.T) {
	h := made(t, 1000)
	m := tabled(t, h, 5)
	for _, key := range [][]byte{nil, {}} {
		if added, e := m.Put(key, 0, 1, 2); !added || e != api.OK {
			t.Errorf("Put: %v, %d", added, e)
		}
		for _, same := range [][]byte{nil, {}} {
			if added, e := m.Put(same, 0, 3, 4); added || e != api.OK {
				t.Errorf("Put again: %v, %d", added, e)
			}
			if _, a, b, e := m.Get(same); a != 3 || b != 4 || e != api.OK {
				t.Errorf("Get: %d, %d, %d", a, b, e)
			}
		}
		wantErrno(t, "Delete", m.Delete(make([]byte, 0)), api.OK)
		wantErrno(t, "Delete", m.Delete(nil), api.ErrTableNone)
	}
}
