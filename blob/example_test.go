package blob_test

import (
	"testing"

	"larder/api"
	"larder/blob"
)

// TestExamples: the table at the end of the chapter, row by row.
func TestExamples(t *testing.T) {
	h := made(t, 1024)
	laid(t, h)
	if got := h.Stats().Used; got != 3 {
		t.Errorf("New(h): Used %d, want 3", got)
	}
	ref := laid(t, h, "ab", "", "cd")
	if got := h.Stats().Used; got != 6 {
		t.Errorf("New(h, ab, , cd): Used %d, want 6", got)
	}
	wantRead(t, h, ref, "abcd")
	for _, c := range []struct {
		from, n int
		b       string
		e       api.Errno
	}{{1, 2, "bc", api.OK}, {4, 0, "", api.OK}, {4, 1, "", api.ErrBlobSpan}, {1, most, "", api.ErrBlobSpan}} {
		if b, e := blob.Slice(h, ref, c.from, c.n); string(b) != c.b || e != c.e {
			t.Errorf("Slice(%d, %d) = %q, %d", c.from, c.n, b, e)
		}
	}
	if to, e := blob.Write(h, ref, 2, []byte("XYZ")); to != ref || e != api.OK {
		t.Errorf("Write(2, XYZ) = %#x, %d, want %#x", to, e, ref)
	}
	wantRead(t, h, ref, "abXYZ")
	to, e := blob.Write(h, ref, 10, []byte("Q"))
	if to == ref || e != api.OK {
		t.Errorf("Write(10, Q) = %#x, %d, want another ref than %#x", to, e, ref)
	}
	wantRead(t, h, to, "abXYZ\x00\x00\x00\x00\x00Q")
	for _, c := range []struct {
		at   int
		b    string
		want uint64
		e    api.Errno
	}{{99, "", to, api.OK}, {4097, "", 0, api.ErrBlobSpan}, {-1, "a", 0, api.ErrBlobSpan}, {4096, "a", 0, api.ErrBlobLong}} {
		if got, e := blob.Write(h, to, c.at, []byte(c.b)); got != c.want || e != c.e {
			t.Errorf("Write(%d, %q) = %#x, %d, want %#x, %d", c.at, c.b, got, e, c.want, c.e)
		}
	}
	wantRead(t, h, to, "abXYZ\x00\x00\x00\x00\x00Q")
	for _, c := range []struct {
		a, b string
		want int
	}{{"abc", "abd", -1}, {"abc", "ab", 1}, {"", "", 0}} {
		if got, e := blob.Compare(h, laid(t, h, c.a), []byte(c.b)); got != c.want || e != api.OK {
			t.Errorf("Compare(%q, %q) = %d, %d, want %d", c.a, c.b, got, e, c.want)
		}
	}
	if got, e := blob.Count(h, laid(t, h, "a\xff"), 0, 2); got != 11 || e != api.OK {
		t.Errorf("Count(a 0xff) = %d, %d, want 11", got, e)
	}
	if n, e := blob.Len(h, 0); n != 0 || e != api.ErrBlobRef {
		t.Errorf("Len(0) = %d, %d, want ErrBlobRef", n, e)
	}
	if ref, e := blob.New(h, make([]byte, 4096), make([]byte, 1)); ref != 0 || e != api.ErrBlobLong {
		t.Errorf("New(4096 bytes, 1 byte) = %#x, %d, want ErrBlobLong", ref, e)
	}
}
