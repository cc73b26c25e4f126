package space_test

import (
	"fmt"
	"testing"
	"time"

	"larder/api"
	"larder/chain"
)

const patience = 10 * time.Second

// TestRunsTakeLittle: many Runs on a space that is full, each of which touches little.
func TestRunsTakeLittle(t *testing.T) {
	s := made(t, 16384)
	start := time.Now()
	hurry := func(what string, i int) {
		if i%100 == 0 && time.Since(start) > patience {
			t.Fatalf("%s: %d rounds took %v", what, i, time.Since(start))
		}
	}
	for i := range 500 {
		done(t, s, 1, func() { store(t, s, at(i%4, fmt.Sprint(i)), text("x")) })
		hurry("filling", i)
	}
	for i := range 50000 {
		k := i * 7919 % 500
		done(t, s, uint64(i), func() {
			store(t, s, at(k%4, fmt.Sprint(k)), text("y"))
			s.SetDeadline(k%4, []byte(fmt.Sprint(k)), 1<<40)
		})
		hurry("small Runs", i)
	}
	start = time.Now()
	done(t, s, 1<<40, func() { store(t, s, at(0, "l"), grown(api.ValList, 1500, 8)) })
	for i := range 2000 {
		done(t, s, 1<<40, func() {
			l, _ := chain.Open(s.Heap(), edit(t, s, at(0, "l"), api.ValList))
			l.Push(true, []byte("x"))
			l.Pop(false)
			l.Close()
		})
		hurry("a long list", i)
	}
}
