package wait_test

import (
	"testing"
	"time"

	"larder/api"
	"larder/wait"
)

const patience = 20 * time.Second

func TestR1_TimeOfManyCallsWithLongKeys(t *testing.T) {
	// Keys of one length that differ at their ends alone take longest to be held against each other.
	var places []api.Place
	for i := range api.MaxWait {
		places = append(places, at(0, long(api.MaxText-1)+string(rune('0'+i))))
	}
	w := wait.New()
	start := time.Now()
	for i := range 500 {
		conn := i % api.MaxConns
		w.Release(conn)
		wantBlock(t, w, conn, api.ValList, places, uint64(i), api.OK)
		w.Next(places[i%api.MaxWait], api.ValRank)
		w.Places(conn)
		w.Due(uint64(i))
		w.Waiting()
	}
	if took := time.Since(start); took > patience {
		t.Errorf("took %v", took)
	}
}
