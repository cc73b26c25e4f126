package chain_test

import (
	"testing"

	"larder/api"
	"larder/blob"
	"larder/chain"
)

// TestExamples goes through examples 1 to 3 and 5 of the chapter.
func TestExamples(t *testing.T) {
	h := made(t, 1000)
	l := listed(t, h)
	wantErrno(t, "Push b", l.Push(false, []byte("b")), api.OK)
	wantErrno(t, "Push a", l.Push(true, []byte("a")), api.OK)
	wantErrno(t, "Push c", l.Push(false, []byte("c")), api.OK)
	wantList(t, h, l, "a", "b", "c")
	wantUsed(t, h, 26, 0, 1)
	if b, e := l.Get(2); string(b) != "c" || e != api.OK {
		t.Errorf("Get(2) = %q, %d", b, e)
	}
	for _, i := range []int{3, -1} {
		if b, e := l.Get(i); len(b) != 0 || e != api.ErrChainIndex {
			t.Errorf("Get(%d) = %q, %d", i, b, e)
		}
	}
	wantErrno(t, "Set(3)", l.Set(3, []byte("x")), api.ErrChainIndex)
	wantErrno(t, "Insert(3)", l.Insert(3, []byte("d")), api.OK)
	wantList(t, h, l, "a", "b", "c", "d")
	wantErrno(t, "Insert(5)", l.Insert(5, []byte("e")), api.ErrChainIndex)
	wantErrno(t, "Insert(1)", l.Insert(1, []byte("")), api.OK)
	wantList(t, h, l, "a", "", "b", "c", "d")
	wantErrno(t, "Cut(1, 2)", l.Cut(1, 2), api.OK)
	wantList(t, h, l, "a", "c", "d")
	wantErrno(t, "Cut(3, 0)", l.Cut(3, 0), api.OK)
	wantErrno(t, "Cut(2, 2)", l.Cut(2, 2), api.ErrChainIndex)
	wantErrno(t, "Cut(1, most)", l.Cut(1, most), api.ErrChainIndex)
	wantList(t, h, l, "a", "c", "d")
	wantPop(t, l, true, "a", api.OK)
	wantPop(t, l, false, "d", api.OK)
	wantPop(t, l, false, "c", api.OK)
	wantPop(t, l, true, "", api.ErrChainEmpty)
}

// TestExamplesOfStrike is example 4.
func TestExamplesOfStrike(t *testing.T) {
	for _, c := range []struct {
		front bool
		most  int
		b     string
		n     int
		want  string
	}{
		{true, 2, "a", 2, "b,c,a"},
		{false, 2, "a", 2, "a,b,c"},
		{true, 9, "a", 3, "b,c"},
		{true, 0, "a", 0, "a,b,a,c,a"},
		{true, 1, "x", 0, "a,b,a,c,a"},
	} {
		h := made(t, 1000)
		l := listed(t, h, "a", "b", "a", "c", "a")
		wantStrike(t, l, c.front, c.most, c.b, c.n)
		wantList(t, h, l, split(c.want)...)
	}
}

// TestExamplesOfOpenAndClose are examples 6 and 7.
func TestExamplesOfOpenAndClose(t *testing.T) {
	h := made(t, 1000)
	l := listed(t, h, "a")
	m, e := chain.Open(h, l.Ref())
	if e != api.OK {
		t.Fatalf("Open: %d", e)
	}
	wantErrno(t, "Push", m.Push(true, []byte("z")), api.OK)
	if b, e := l.Get(0); string(b) != "z" || e != api.OK {
		t.Errorf("Get(0) = %q, %d", b, e)
	}
	x, _ := blob.New(h, []byte("x"))
	for _, ref := range []uint64{0, x, field(t, h, l.Ref(), 0)} {
		if o, e := chain.Open(h, ref); o != nil || e != api.ErrChainRef {
			t.Errorf("Open(%#x): %d", ref, e)
		}
	}
	l.Close()
	if l.Len() != 0 || m.Len() != 2 {
		t.Errorf("behind Close: Len %d and %d", l.Len(), m.Len())
	}
	wantErrno(t, "Push", l.Push(true, []byte("y")), api.ErrChainShut)
	m.Close()
	wantUsed(t, h, 1, 0, 0)
}

// TestExampleOfAFullHeap is example 8.
func TestExampleOfAFullHeap(t *testing.T) {
	h := made(t, 128)
	l := listed(t, h)
	var want []string
	for range 8 {
		wantErrno(t, "Push", l.Push(false, []byte("12345678")), api.OK)
		want = append(want, "12345678")
	}
	wantUsed(t, h, 61, 0, 1)
	wantErrno(t, "the ninth", l.Push(false, []byte("12345678")), api.ErrHeapFull)
	wantErrno(t, "an empty one", l.Push(false, nil), api.ErrHeapFull)
	wantList(t, h, l, want...)
	wantErrno(t, "Set", l.Set(0, nil), api.OK)
	want[0] = ""
	wantList(t, h, l, want...)
	wantUsed(t, h, 60, 0, 1)
}

// TestExampleOfAll is example 9.
func TestExampleOfAll(t *testing.T) {
	h := made(t, 1000)
	l := listed(t, h, "a", "b", "c")
	found := ""
	for _, b := range l.All() {
		l.Pop(true)
		found += string(b)
	}
	if found != "abc" {
		t.Errorf("All told %q", found)
	}
	wantList(t, h, l)
}

func wantPop(t *testing.T, l *chain.List, front bool, want string, e api.Errno) {
	t.Helper()
	if b, got := l.Pop(front); string(b) != want || got != e {
		t.Errorf("Pop(%v) = %.40q, %d, want %.40q, %d", front, b, got, want, e)
	}
}

func wantStrike(t *testing.T, l *chain.List, front bool, most int, b string, want int) {
	t.Helper()
	if n, e := l.Strike(front, most, []byte(b)); n != want || e != api.OK {
		t.Errorf("Strike(%v, %d, %.40q) = %d, %d, want %d", front, most, b, n, e, want)
	}
}
