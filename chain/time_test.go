package chain_test

import (
	"testing"
	"time"

	"larder/api"
)

const patience = 5 * time.Second

// TestTheNearerEnd: at both ends of a long list calls take no longer than on a short one. (Through the whole list each time, they would take minutes.)
func TestTheNearerEnd(t *testing.T) {
	h := made(t, api.MaxLimit)
	l := listed(t, h)
	start := time.Now()
	const long = 60000
	for i := range long {
		if e := l.Push(i%2 == 0, nil); e != api.OK {
			t.Fatalf("Push %d: %d", i, e)
		}
	}
	for i := range 20000 {
		k := i % 3
		l.Get(k)
		l.Get(long - 1 - k)
		l.Slice(long-3, 3)
		l.Slice(k, 3)
		l.Insert(long-k, nil)
		l.Insert(k, nil)
		l.Cut(long+1-k, 1)
		l.Cut(k, 1)
		l.Cut(0, 1)
		l.Push(true, nil)
		l.Cut(long-1, 1)
		l.Push(false, nil)
		l.Set(k, nil)
		l.Set(long-1-k, nil)
		l.Pop(true)
		l.Pop(false)
		l.Strike(true, 1, nil)
		l.Strike(false, 1, nil)
		for i := range 4 {
			l.Push(i%2 == 0, nil)
		}
		if i%100 == 0 && time.Since(start) > patience {
			t.Fatalf("%d rounds took %v", i+1, time.Since(start))
		}
	}
	if l.Len() != long {
		t.Errorf("Len = %d, want %d", l.Len(), long)
	}
}
