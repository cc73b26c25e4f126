package text_test

import (
	"fmt"
	"math/big"
	"testing"

	"larder/api"
)

func TestP11_7_Append(t *testing.T) {
	s := made(t, 16384)
	play(t, s, 1000,
		row{"APPEND a xy", 2}, row{"APPEND a z", 3}, row{`APPEND a ""`, 3}, row{"GET a", `"xyz"`},
		row{`APPEND e ""`, 0}, row{"GET e", `""`},
		row{"SET d x PX 500", "OK"}, row{`APPEND d "\x00"`, 2}, row{"GET d", `"x\x00"`},
		row{"APPEND b " + wide(4096), 4096}, row{`APPEND b ""`, 4096}, row{"APPEND b x", api.BadLong}, row{"STRLEN b", 4096},
		row{"APPEND c " + wide(4095), 4095}, row{"APPEND c xy", api.BadLong}, row{"APPEND c x", 4096}, row{"APPEND c " + wide(4096), api.BadLong})
	wantDeadline(t, s, "a", 0)
	wantDeadline(t, s, "d", 1500)
	wantText(t, s, "c", wide(4095)+"x")
}

func TestP11_8_Getrange(t *testing.T) {
	s := made(t, 4000)
	const all = "abcde"
	play(t, s, 0, row{"SET k " + all, "OK"})
	edges := []int64{-1 << 63, -1<<63 + 1, -7, -6, -5, -4, -3, -2, -1, 0, 1, 2, 3, 4, 5, 6, 7, 1<<63 - 2, 1<<63 - 1}
	for _, start := range edges {
		for _, stop := range edges {
			want := ""
			for i := range all {
				// A place counts from the beginning or from the end, as the bound that it is held against does.
				from, to := int64(i), int64(i)
				if start < 0 {
					from -= int64(len(all))
				}
				if stop < 0 {
					to -= int64(len(all))
				}
				if start <= from && to <= stop {
					want += all[i : i+1]
				}
			}
			play(t, s, 0, row{fmt.Sprint("GETRANGE k ", start, " ", stop), fmt.Sprintf("%q", want)}, row{fmt.Sprint("GETRANGE none ", start, " ", stop), `""`})
		}
	}
	wantGone(t, s, "none")
	play(t, s, 0, row{"GETRANGE k x y", api.BadInt}, row{"GETRANGE k 0 y", api.BadInt}, row{"GETRANGE k x 0", api.BadInt}, row{"GETRANGE k 00 1", api.BadInt}, row{"GETRANGE k 0 9223372036854775808", api.BadInt})
}

func TestP11_8_Setrange(t *testing.T) {
	s := made(t, 16384)
	play(t, s, 1000,
		row{"SETRANGE a 0 abc", 3}, row{"SETRANGE a 1 X", 3}, row{"GET a", `"aXc"`}, row{"SETRANGE a 2 YZ", 4}, row{"GET a", `"aXYZ"`}, row{"SETRANGE a 4 W", 5}, row{"SETRANGE a 7 V", 8}, row{"GET a", `"aXYZW\x00\x00V"`},
		row{"SETRANGE b 2 x", 3}, row{"GET b", `"\x00\x00x"`},
		row{`SETRANGE a 3 ""`, 8}, row{`SETRANGE a 100 ""`, 8}, row{"STRLEN a", 8}, row{`SETRANGE n 0 ""`, 0}, row{`SETRANGE n 4096 ""`, 0}, row{`SETRANGE n 4097 ""`, api.BadRange}, row{`SETRANGE n -1 ""`, api.BadRange}, row{"SETRANGE n 9223372036854775807 x", api.BadRange}, row{"SETRANGE n 9223372036854775808 x", api.BadInt}, row{"SETRANGE n x y", api.BadInt})
	wantGone(t, s, "n")
	play(t, s, 1000,
		row{"SETRANGE n 4096 x", api.BadLong}, row{"SETRANGE n 4095 xy", api.BadLong}, row{"SETRANGE n 1 " + wide(4096), api.BadLong}, row{"SETRANGE a 4090 1234567", api.BadLong},
		row{"SETRANGE n 4095 x", 4096}, row{"SETRANGE n 0 " + wide(4096), 4096}, row{"GET n", fmt.Sprintf("%q", wide(4096))}, row{"SETRANGE n 4090 123456", 4096},
		row{"SET d abc PX 500", "OK"}, row{"SETRANGE d 1 x", 3}, row{`SETRANGE d 1 ""`, 3})
	wantText(t, s, "n", wide(4090)+"123456")
	wantDeadline(t, s, "d", 1500)
}

// TestP11_9_Counters: every step from every number, exactly.
func TestP11_9_Counters(t *testing.T) {
	var edges []int64
	for _, n := range []int64{0, 1, 2, 7, 1 << 32, 1 << 62, 1<<63 - 2, 1<<63 - 1} {
		edges = append(edges, n, -n, -n-1)
	}
	lo, hi := big.NewInt(-1<<63), big.NewInt(1<<63-1)
	for _, a := range edges {
		for _, n := range edges {
			for _, c := range []struct {
				line string
				sum  *big.Int
			}{
				{fmt.Sprint("INCRBY k ", n), new(big.Int).Add(big.NewInt(a), big.NewInt(n))},
				{fmt.Sprint("DECRBY k ", n), new(big.Int).Sub(big.NewInt(a), big.NewInt(n))},
				{"INCR k", new(big.Int).Add(big.NewInt(a), big.NewInt(1))},
				{"DECR k", new(big.Int).Sub(big.NewInt(a), big.NewInt(1))},
			} {
				s := made(t, 256)
				play(t, s, 1000, row{fmt.Sprint("SET k ", a, " PX 500"), "OK"})
				want, behind := any(c.sum.String()), c.sum.String()
				if c.sum.Cmp(lo) < 0 || c.sum.Cmp(hi) > 0 {
					want, behind = api.BadOver, fmt.Sprint(a)
				}
				play(t, s, 1000, row{c.line, want})
				wantText(t, s, "k", behind)
				wantDeadline(t, s, "k", 1500)
			}
		}
	}
}

func TestP11_9_WhatIsNoNumber(t *testing.T) {
	for _, c := range []string{"INCR %s", "DECR %s", "INCRBY %s 0", "DECRBY %s 0"} {
		s := made(t, 4000)
		for _, v := range []string{`""`, "01", "-0", "+1", "x", "1x", `"1\x20"`, "1.0", "9223372036854775808", "-9223372036854775809", wide(4096)} {
			play(t, s, 0, row{"SET k " + v, "OK"}, row{fmt.Sprintf(c, "k"), api.BadInt})
		}
	}
	s := made(t, 4000)
	for _, n := range []string{"x", `""`, "01", "-0", "9223372036854775808", "-9223372036854775809"} {
		play(t, s, 0, row{"INCRBY k " + n, api.BadInt}, row{"DECRBY k " + n, api.BadInt})
	}
	wantGone(t, s, "k")
	play(t, s, 0, row{"DECRBY k -9223372036854775808", api.BadOver})
	wantGone(t, s, "k")
	play(t, s, 0, row{"INCRBY k -9223372036854775808", "-9223372036854775808"}, row{"INCRBY j 0", 0}, row{"GET j", `"0"`}, row{"DECR i", -1}, row{"INCR h", 1})
	wantDeadline(t, s, "k", 0)
}
