package table_test

import (
	"testing"

	"larder/api"
	"larder/table"
	"larder/word"
)

// TestExamples goes through examples 1 to 3 of the chapter.
func TestExamples(t *testing.T) {
	h := made(t, 1000)
	m := tabled(t, h, 7)
	wantShape(t, m, 0, 4, 0, 0)
	wantUsed(t, h, 12, 0, 1)
	wantPut(t, m, "a", 0, 1, 2, true, api.OK)
	wantGet(t, m, "a", 0, 1, 2, api.OK)
	wantPut(t, m, "a", 0, 3, 4, false, api.OK)
	wantGet(t, m, "a", 0, 3, 4, api.OK)
	wantGet(t, m, "b", 0, 0, 0, api.ErrTableNone)
	wantUsed(t, h, 22, 0, 1)
	for _, key := range []string{"b", "c", "d", "e"} {
		wantPut(t, m, key, 0, 0, 0, true, api.OK)
	}
	wantShape(t, m, 5, 8, 4, 0)
	wantUsed(t, h, 1+6+9+5+50, 0, 1)
}

// TestExamplesOfSteps: the next Put or Delete or Step ends the rehash of example 3.
func TestExamplesOfSteps(t *testing.T) {
	h := made(t, 2000)
	for i, call := range []func(m *table.Table){
		func(m *table.Table) { m.Put([]byte("a"), 0, 0, 0) },
		func(m *table.Table) { m.Delete([]byte("x")) },
		func(m *table.Table) { m.Step() },
	} {
		m := tabled(t, h, uint64(i), "a", "b", "c", "d", "e")
		wantShape(t, m, 5, 8, 4, 0)
		call(m)
		wantShape(t, m, 5, 8, 0, 0)
		m.Close()
	}
}

// TestExamplesOfScan is example 4.
func TestExamplesOfScan(t *testing.T) {
	h := made(t, 2000)
	m := tabled(t, h, 7)
	wantScanned := func(cursor uint64, n int, next uint64, keys ...string) {
		t.Helper()
		got, list := m.Scan(cursor, n)
		if got != next || len(list) != len(keys) {
			t.Fatalf("Scan(%d, %d): %d, %q, want %d, %q", cursor, n, got, list, next, keys)
		}
		for i, key := range keys {
			if string(list[i]) != key {
				t.Errorf("Scan(%d, %d): %q, want %q", cursor, n, list, keys)
			}
		}
	}
	wantScanned(0, 2, 0)
	wantPut(t, m, "key", 0, 0, 0, true, api.OK)
	wantScanned(0, 2, 0, "key")
	wantPut(t, m, "and", 0, 0, 0, true, api.OK)
	wantPut(t, m, "third", 0, 0, 0, true, api.OK)
	order := byHash(7, []string{"key", "and", "third"})
	y, z := word.Hash(7, []byte(order[1])), word.Hash(7, []byte(order[2]))
	wantScanned(0, 0, y, order[0])
	wantScanned(y, 2, 0, order[1:]...)
	wantScanned(z+1, 5, 0)
}

// TestExamplesOfClose is example 5.
func TestExamplesOfClose(t *testing.T) {
	h := made(t, 1000)
	m := tabled(t, h, 7, "a", "b")
	u, _ := table.Open(h, m.Ref())
	m.Close()
	if m.Len() != 0 {
		t.Errorf("Len = %d", m.Len())
	}
	wantPut(t, m, "a", 0, 0, 0, false, api.ErrTableShut)
	again, e := table.Open(h, u.Ref())
	wantErrno(t, "Open", e, api.OK)
	wantKeys(t, again, 7, "a", "b")
	if none, e := table.Open(h, 0); none != nil || e != api.ErrTableRef {
		t.Errorf("Open(0): %d", e)
	}
}
