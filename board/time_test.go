package board_test

import (
	"fmt"
	"math/big"
	"strconv"
	"strings"
	"testing"

	"larder/api"
)

// deadlineOf reckons the deadline that a command of P15.6 means, exactly.
func deadlineOf(name string, clock uint64, n int64) *big.Int {
	d := big.NewInt(n)
	if !strings.HasPrefix(name, "P") {
		d.Mul(d, big.NewInt(1000))
	}
	if !strings.HasSuffix(name, "AT") {
		d.Add(d, new(big.Int).SetUint64(clock))
	}
	return d
}

// allowed tells by P15.6's words whether a key that has a deadline, 0: none, may have another.
func allowed(options string, was uint64, d *big.Int) bool {
	against := new(big.Int).SetUint64(was).Cmp(d)
	for _, o := range strings.Fields(options) {
		holds := false
		switch o {
		case "NX":
			holds = was == 0
		case "XX":
			holds = was != 0
		case "GT":
			holds = was != 0 && against < 0
		case "LT":
			holds = was == 0 || against > 0
		}
		if !holds {
			return false
		}
	}
	return true
}

// TestP15_6_Deadlines: every command, with all options that go together, at the edges of all that a number can mean.
func TestP15_6_Deadlines(t *testing.T) {
	most := big.NewInt(api.MaxTime)
	for _, clock := range []uint64{0, 1, 2500, api.MaxTime - 1, api.MaxTime} {
		numbers := map[int64]bool{0: true, 1<<63 - 1: true, -1 << 63: true, 1 << 62: true, -1 << 62: true, 1 << 54: true, -1 << 54: true, 9223372036854775: true, 9223372036854776: true, -9223372036854776: true, 18446744073709552: true}
		for _, mark := range []int64{0, int64(clock), int64(clock) / 1000, int64(clock) + 70, 70, 3, api.MaxTime, api.MaxTime / 1000, api.MaxTime - int64(clock), (api.MaxTime - int64(clock)) / 1000} {
			for by := int64(-1); by <= 1; by++ {
				numbers[mark+by], numbers[-mark+by] = true, true
			}
		}
		for _, was := range []uint64{0, clock + 1, clock + 70, api.MaxTime} {
			if was != 0 && (was <= clock || was > api.MaxTime) {
				continue
			}
			for _, name := range []string{"EXPIRE", "PEXPIRE", "EXPIREAT", "PEXPIREAT"} {
				for n := range numbers {
					for _, options := range []string{"", "NX", "XX", "GT", "LT", "XX GT", "GT XX", "XX LT", "LT XX"} {
						s := made(t, 256)
						do(s, clock, "RPUSH k v")
						if was != 0 {
							store(t, s, "k", listOf("v"), was)
						}
						d := deadlineOf(name, clock, n)
						line := fmt.Sprintf("%s k %d %s", name, n, options)
						got := told(do(s, 0, line))
						want, behind := "0", strconv.FormatUint(was, 10)
						switch {
						case d.Cmp(most) > 0:
							want = refusal(api.BadTime)
						case allowed(options, was, d):
							want, behind = "1", d.String()
							if d.Cmp(new(big.Int).SetUint64(clock)) <= 0 {
								behind = "gone"
							}
						}
						at, there := s.Deadline(0, []byte("k"))
						left := strconv.FormatUint(at, 10)
						if !there {
							left = "gone"
						}
						if got != want || left != behind {
							t.Fatalf("at %d, until %d, %s: %s, %s; want %s, %s", clock, was, line, got, left, want, behind)
						}
						if changed := len(s.Changed()) == 1; changed != (behind != strconv.FormatUint(was, 10)) {
							t.Fatalf("at %d, until %d, %s: changed %v", clock, was, line, s.Changed())
						}
					}
				}
			}
		}
	}
}

func TestP15_6_Words(t *testing.T) {
	s := made(t, 4000)
	store(t, s, "k", setOf("a"), 0)
	for _, name := range []string{"EXPIRE", "PEXPIRE", "EXPIREAT", "PEXPIREAT"} {
		for _, key := range []string{"k", "none"} {
			line := name + " " + key + " "
			play(t, s, 5, row{name + " " + key, api.BadArity}, row{name, api.BadArity})
			for _, options := range []string{"NX NX", "XX XX", "GT GT", "LT LT", "NX XX", "XX NX", "NX GT", "GT NX", "NX LT", "LT NX", "GT LT", "LT GT", "XX GT LT", "XX LT GT", "XX GT XX", "GT XX NX", "x", "N", "NXX", "1", `""`, "NX x", "XX GT x", "EX", "PX"} {
				play(t, s, 5, row{line + "9 " + options, api.BadSyntax}, row{line + "-9 " + options, api.BadSyntax}, row{line + "x " + options, api.BadInt}, row{line + greatest + " " + options, api.BadTime})
			}
			for _, n := range []string{"x", `""`, "1.5", "01", "+1", "-0", "9223372036854775808", "-9223372036854775809", "1_0", "\"1\\x00\"", "\"\\x201\""} {
				play(t, s, 5, row{line + n, api.BadInt})
			}
		}
		for _, options := range []string{"", "nx", "xx", "gt", "lt", "xx gt", "lt xx"} {
			play(t, s, 5, row{name + " none 90 " + options, 0}, row{name + " none -90 " + options, 0})
			wantChanged(t, s)
		}
	}
	wantAt(t, s, at(0, "k"), setOf("a"), 0)
	play(t, s, 5, row{"pexpire k 90 Nx", 1}, row{"PEXPIRE k 90 nX", 0}, row{"PEXPIRE k 100 xX gT", 1}, row{"PEXPIRE k 95 lT Xx", 1}, row{"PEXPIRETIME k", 100})
}

// TestP15_6_WhatExpiresGoes: at once or later, with a value of any kind, and does not come back.
func TestP15_6_WhatExpiresGoes(t *testing.T) {
	for _, v := range kinds()[1:] {
		for _, line := range []string{"EXPIRE k 0", "EXPIRE k -5 LT", "PEXPIRE k 0 XX", "PEXPIRE k -1", "EXPIREAT k 1", "EXPIREAT k 0", "PEXPIREAT k 1000", "PEXPIREAT k 0", "PEXPIREAT k -1", "EXPIREAT k " + least, "EXPIRE k " + least, "PEXPIRE k " + least, "PEXPIREAT k " + least} {
			s := made(t, 4000)
			store(t, s, "k", v, 2000)
			play(t, s, 1000, row{line, 1}, row{"TTL k", -2})
			wantGone(t, s, "k")
			if s.Cost() != 0 {
				t.Errorf("cost %d", s.Cost())
			}
			store(t, s, "k", v, 0)
			play(t, s, 0, row{"PERSIST k", 0}, row{"PTTL k", -1})
		}
		s := made(t, 4000)
		store(t, s, "k", v, 0)
		play(t, s, 1000, row{"PEXPIRE k 1", 1})
		play(t, s, 1000, row{"PTTL k", 1}, row{"TTL k", 1})
		wantAt(t, s, at(0, "k"), v, 1001)
		play(t, s, 1001, row{"TYPE k", "none"})
		wantChanged(t, s, at(0, "k"))
	}
}

func TestP15_5_TellingDeadlines(t *testing.T) {
	for _, c := range []struct{ clock, deadline uint64 }{
		{0, 1}, {0, 999}, {0, 1000}, {0, 1001}, {1, 1001}, {1, 1002}, {999, 1000}, {1000, 2000}, {1001, 2000}, {1001, 2001}, {1001, 2002}, {0, api.MaxTime}, {1, api.MaxTime}, {api.MaxTime - 1, api.MaxTime}, {12345, 67890},
	} {
		s := made(t, 4000)
		for kind, v := range kinds()[1:] {
			key := fmt.Sprint("k", kind)
			store(t, s, key, v, c.deadline)
			left := c.deadline - c.clock
			seconds := left / 1000
			if left%1000 != 0 {
				seconds++
			}
			play(t, s, c.clock, row{"TTL " + key, strconv.FormatUint(seconds, 10)}, row{"PTTL " + key, strconv.FormatUint(left, 10)}, row{"EXPIRETIME " + key, strconv.FormatUint(c.deadline/1000, 10)}, row{"PEXPIRETIME " + key, strconv.FormatUint(c.deadline, 10)})
			wantChanged(t, s)
			play(t, s, 0, row{"PERSIST " + key, 1})
			wantChanged(t, s, at(0, key))
			wantAt(t, s, at(0, key), v, 0)
			play(t, s, 0, row{"PERSIST " + key, 0}, row{"TTL " + key, -1}, row{"PTTL " + key, -1}, row{"EXPIRETIME " + key, -1}, row{"PEXPIRETIME " + key, -1})
			wantChanged(t, s)
			play(t, s, 0, row{"@1 PERSIST " + key, 0}, row{"@1 TTL " + key, -2}, row{"@1 PTTL " + key, -2}, row{"@1 EXPIRETIME " + key, -2}, row{"@1 PEXPIRETIME " + key, -2})
			play(t, s, 0, row{"DEL " + key, 1})
		}
		play(t, s, c.deadline, row{"PERSIST k1", 0}, row{"TTL k1", -2})
	}
}

func TestP15_5_Time(t *testing.T) {
	s := made(t, 256)
	for _, c := range []struct {
		now  uint64
		want string
	}{
		{0, "0 0"}, {1, "0 1000"}, {999, "0 999000"}, {1000, "1 0"}, {1234, "1 234000"}, {900, "1 234000"}, {60001, "60 1000"}, {1<<52 - 1, "4503599627370 495000"}, {1 << 52, "4503599627370 496000"}, {1<<64 - 1, "4503599627370 496000"},
	} {
		play(t, s, c.now, row{"TIME", bulks(c.want)}, row{"TIME 1", api.BadArity})
	}
}
