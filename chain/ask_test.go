package chain_test

import (
	"iter"
	"slices"
	"strings"
	"testing"

	"larder/api"
)

func TestP5_6_Get(t *testing.T) {
	h := made(t, 8000)
	want := []string{text(600), "", "b", text(4096), "c", "\x00"}
	l := listed(t, h, want...)
	before := stateOf(h)
	for i, b := range want {
		if got, e := l.Get(i); string(got) != b || e != api.OK {
			t.Errorf("Get(%d) = %.40q, %d, want %.40q", i, got, e, b)
		}
	}
	for _, i := range append(places, 6, 7) {
		if got, e := l.Get(i); len(got) != 0 || e != api.ErrChainIndex {
			t.Errorf("Get(%d) = %.40q, %d, want ErrChainIndex", i, got, e)
		}
	}
	wantState(t, "Get", h, before)
	empty := listed(t, h)
	for _, i := range append(places, 0, 1) {
		if got, e := empty.Get(i); len(got) != 0 || e != api.ErrChainIndex {
			t.Errorf("Get(%d) of an empty list = %q, %d, want ErrChainIndex", i, got, e)
		}
	}
}

func TestP5_10_Slice(t *testing.T) {
	h := made(t, 8000)
	want := []string{"a", text(600), "", "d", "e", text(4096), "g"}
	l := listed(t, h, want...)
	before := stateOf(h)
	for i := range len(want) + 1 {
		for n := range len(want) + 1 - i {
			got, e := l.Slice(i, n)
			if e != api.OK || !slices.Equal(texts(got), want[i:i+n]) {
				t.Errorf("Slice(%d, %d) = %.40q, %d, want %.40q", i, n, got, e, want[i:i+n])
			}
		}
	}
	wantState(t, "Slice", h, before)
}

func TestP5_10_NoSuchElements(t *testing.T) {
	h := made(t, 1000)
	l := listed(t, h, "a", "b", "c")
	before := stateOf(h)
	for _, c := range wrongSpans {
		if got, e := l.Slice(c[0], c[1]); len(got) != 0 || e != api.ErrChainIndex {
			t.Errorf("Slice(%d, %d) = %q, %d, want ErrChainIndex", c[0], c[1], got, e)
		}
	}
	wantState(t, "Slice of no elements", h, before)
	empty := listed(t, h)
	if got, e := empty.Slice(0, 0); len(got) != 0 || e != api.OK {
		t.Errorf("Slice(0, 0) of an empty list = %q, %d", got, e)
	}
	if _, e := empty.Slice(0, 1); e != api.ErrChainIndex {
		t.Errorf("Slice(0, 1) of an empty list: error %d", e)
	}
}

// heard ranges over an iterator and carries out a body for each element.
func heard(all iter.Seq2[int, []byte], body func(i int)) string {
	var found []string
	for i, b := range all {
		if i != len(found) {
			found = append(found, "a wrong number")
		}
		found = append(found, string(b))
		body(i)
	}
	return strings.Join(found, ",")
}

func TestP5_11_TellsAll(t *testing.T) {
	h := made(t, 8000)
	l := listed(t, h, "a", "", text(600), "d")
	before := stateOf(h)
	inside := 0
	found := heard(l.All(), func(int) { inside = max(inside, h.Stats().Roots) })
	if found != "a,,"+text(600)+",d" {
		t.Errorf("All told %.40q", found)
	}
	if inside != 1 {
		t.Errorf("%d handles in use while a range runs, want 1", inside)
	}
	wantState(t, "All", h, before)
	if found := heard(listed(t, h).All(), func(int) {}); found != "" {
		t.Errorf("All of an empty list told %q", found)
	}
}

func TestP5_11_TheBodyChangesTheList(t *testing.T) {
	h := made(t, 2000)
	l := listed(t, h, "a", "b", "c", "d")
	found := heard(l.All(), func(i int) {
		wantErrno(t, "Set", l.Set(3, []byte("new")), api.OK)
		wantErrno(t, "Push", l.Push(i%2 == 0, []byte("x")), api.OK)
		h.Collect()
	})
	if found != "a,b,c,d" {
		t.Errorf("All told %q", found)
	}
	wantList(t, h, l, "x", "x", "a", "new", "new", "new", "x", "x")
	found = heard(l.All(), func(i int) {
		l.Cut(0, l.Len())
		h.Collect()
	})
	if found != "x,x,a,new,new,new,x,x" {
		t.Errorf("All over a list that is emptied meanwhile told %q", found)
	}
	wantList(t, h, l)
}

func TestP5_11_TheBodyClosesTheList(t *testing.T) {
	h := made(t, 2000)
	l := listed(t, h, "a", "b", "c")
	all := l.All()
	found := heard(all, func(int) {
		l.Close()
		h.Collect()
		listed(t, h, "other").Close()
	})
	if found != "a,b,c" {
		t.Errorf("All over a list that is closed meanwhile told %q", found)
	}
	if found := heard(all, func(int) {}); found != "" {
		t.Errorf("behind Close it told %q", found)
	}
	wantUsed(t, h, 1, 0, 0)
}

func TestP5_11_LeftEarly(t *testing.T) {
	h := made(t, 2000)
	l := listed(t, h, "a", "b", "c")
	all := l.All()
	for stop := range 3 {
		calls := 0
		all(func(i int, b []byte) bool {
			if i != calls || string(b) != string(rune('a'+i)) {
				t.Errorf("call %d is told %d, %q", calls, i, b)
			}
			calls++
			return i < stop
		})
		if calls != stop+1 {
			t.Errorf("left at %d, but called %d times", stop, calls)
		}
	}
	if got := h.Stats().Roots; got != 1 {
		t.Errorf("behind ranges that were left %d handles are in use", got)
	}
}

// TestP5_11_EachRangeBeginsAnew: an All() tells what is there when a range over it begins, not when it was asked for.
func TestP5_11_EachRangeBeginsAnew(t *testing.T) {
	h := made(t, 2000)
	l := listed(t, h)
	all := l.All()
	for _, want := range []string{"a", "a,b", "a,b,c"} {
		wantErrno(t, "Push", l.Push(false, []byte(want[len(want)-1:])), api.OK)
		for range 2 {
			if found := heard(all, func(int) {}); found != want {
				t.Errorf("All told %q, want %q", found, want)
			}
		}
	}
	found := ""
	for i := range all {
		l.Pop(true)
		found += "[" + string(rune('0'+i)) + heard(all, func(int) {}) + "]"
	}
	if found != "[0b,c][1c][2]" {
		t.Errorf("ranges inside a range told %q", found)
	}
	wantList(t, h, l)
}

func TestP5_11_Pulled(t *testing.T) {
	h := made(t, 2000)
	l := listed(t, h, "a", "b")
	next, stop := iter.Pull2(l.All())
	defer stop()
	for i, want := range []string{"a", "b"} {
		if n, b, ok := next(); n != i || string(b) != want || !ok {
			t.Errorf("pulled %d, %q, %v, want %d, %q", n, b, ok, i, want)
		}
		l.Pop(true)
	}
	if _, _, ok := next(); ok {
		t.Error("a third element was told")
	}
}
