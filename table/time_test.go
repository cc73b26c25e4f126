package table_test

import (
	"strconv"
	"testing"
	"time"

	"larder/api"
)

const patience = 5 * time.Second

// TestCallsDoNotGoThroughTheWholeTable: with many keys each call takes about as long as with few. (Through the whole table each time, they would take minutes.)
func TestCallsDoNotGoThroughTheWholeTable(t *testing.T) {
	h := made(t, api.MaxLimit)
	m := tabled(t, h, 1)
	start := time.Now()
	hurry := func(i int) {
		if i%100 == 0 && time.Since(start) > patience {
			t.Fatalf("%d rounds took %v", i, time.Since(start))
		}
	}
	const many = 40000
	for i := range many {
		wantPut(t, m, strconv.Itoa(i), 0, 0, 0, true, api.OK)
		hurry(i)
	}
	start = time.Now()
	for i := range many {
		key := strconv.Itoa(i * 7919 % many)
		m.Get([]byte(key))
		m.Get([]byte("none"))
		m.Put([]byte(key), 0, 1, 2)
		m.Shape()
		if _, list := m.Scan(uint64(i)<<48, 3); len(list) < 3 {
			t.Fatalf("Scan told %d keys", len(list))
		}
		m.Delete([]byte(key))
		m.Put([]byte(key), 0, 1, 2)
		hurry(i)
	}
	start = time.Now()
	if n := len(m.Keys()); n != many {
		t.Errorf("%d keys", n)
	}
	for i := range many {
		wantErrno(t, "Delete", m.Delete([]byte(strconv.Itoa(i))), api.OK)
		hurry(i)
	}
}
