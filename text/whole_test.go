package text_test

import (
	"fmt"
	"testing"

	"larder/api"
	"larder/text"
)

func TestP11_3_GetAndStrlen(t *testing.T) {
	s := made(t, 16384)
	play(t, s, 0,
		row{"GET a", "nil"}, row{"STRLEN a", 0}, row{`SET a ""`, "OK"}, row{"GET a", `""`}, row{"STRLEN a", 0},
		row{`SET a "\x00\xff\r\n"`, "OK"}, row{"GET a", `"\x00\xff\r\n"`}, row{"STRLEN a", 4},
		row{`SET "" e`, "OK"}, row{`GET ""`, `"e"`}, row{"SET b " + wide(4096), "OK"}, row{"STRLEN b", 4096}, row{"GET b", fmt.Sprintf("%q", wide(4096))},
		row{"GET A", "nil"})
	key := wide(4096)
	play(t, s, 0, row{"SET " + key + " v", "OK"}, row{"GET " + key, `"v"`}, row{"GET " + key[1:], "nil"})
}

// TestP11_4_Set: all of its options together, on a key that is there and on one that is not.
func TestP11_4_Set(t *testing.T) {
	for _, c := range []struct {
		options      string
		there        bool
		reply, holds string
	}{
		{"", false, "OK", "new"}, {"", true, "OK", "new"},
		{"NX", false, "OK", "new"}, {"NX", true, "nil", "old"},
		{"XX", false, "nil", ""}, {"XX", true, "OK", "new"},
		{"GET", false, "nil", "new"}, {"GET", true, `"old"`, "new"},
		{"NX GET", false, "nil", "new"}, {"GET NX", true, `"old"`, "old"},
		{"GET XX", false, "nil", ""}, {"xx get", true, `"old"`, "new"},
	} {
		for _, time := range []struct {
			words    string
			deadline uint64
		}{{"", 0}, {"EX 5", 6000}, {"PX 5", 1005}, {"EXAT 5", 5000}, {"PXAT 5000", 5000}, {"KEEPTTL", 7000}, {"pxat 1001", 1001}, {"PXAT 1000", 1}, {"EXAT 1", 1}, {"PXAT 1", 1}} {
			for _, line := range []string{"SET k new " + c.options + " " + time.words, "SET k new " + time.words + " " + c.options} {
				s := made(t, 4000)
				if c.there {
					play(t, s, 1000, row{"SET k old PXAT 7000", "OK"})
				}
				want := time.deadline
				if c.holds == "old" || time.words == "KEEPTTL" && c.there {
					want = 7000
				} else if time.words == "KEEPTTL" {
					want = 0
				}
				play(t, s, 1000, row{line, c.reply})
				if c.holds == "" || want == 1 {
					wantGone(t, s, "k")
					continue
				}
				wantText(t, s, "k", c.holds)
				wantDeadline(t, s, "k", want)
			}
		}
	}
}

func TestP11_4_SetIsReadFromTheLeft(t *testing.T) {
	s := made(t, 4000)
	play(t, s, 1000, row{"SET k v PX 500", "OK"})
	for _, options := range []string{"NY", "X", `""`, "PERSIST", "N X", "NX x", "GET 5", "5", "EX 5 5", "KEEPTTL 5"} {
		play(t, s, 1000, row{"SET k w " + options, api.BadSyntax})
	}
	once := [][]string{{"NX", "XX"}, {"GET"}, {"EX 5", "PX 5", "EXAT 5", "PXAT 5", "KEEPTTL"}}
	for _, group := range once {
		for _, one := range group {
			for _, two := range group {
				play(t, s, 1000, row{"SET k w " + one + " " + two, api.BadSyntax})
			}
		}
	}
	for _, unit := range []string{"EX", "PX", "EXAT", "PXAT", "ex", "pXaT"} {
		play(t, s, 1000,
			row{"SET k w " + unit, api.BadSyntax}, row{"SET k w NX " + unit, api.BadSyntax},
			row{"SET k w " + unit + " NX", api.BadInt}, row{"SET k w " + unit + " x FOO", api.BadInt}, row{"SET k w " + unit + ` ""`, api.BadInt},
			row{"SET k w " + unit + " 0 FOO", api.BadTime}, row{"SET k w " + unit + " 01", api.BadInt}, row{"SET k w " + unit + " +1", api.BadInt}, row{"SET k w " + unit + " -0", api.BadInt}, row{"SET k w " + unit + " 1.5", api.BadInt},
			row{"SET k w FOO " + unit + " 0", api.BadSyntax}, row{"SET k w KEEPTTL " + unit + " x", api.BadSyntax}, row{"SET k w EX 1 " + unit + " x", api.BadSyntax}, row{"SET k w " + unit + " 1 GET GET", api.BadSyntax}, row{"SET k w GET GET " + unit + " 0", api.BadSyntax}, row{"SET k w " + unit + " 0 GET GET", api.BadTime})
	}
	wantText(t, s, "k", "v")
	wantDeadline(t, s, "k", 1500)
}

// TestP11_4_Times: the bounds of what a time may be, in all commands that take one.
func TestP11_4_Times(t *testing.T) {
	const most = api.MaxTime // 4503599627370496
	for _, clock := range []uint64{0, 1, 999, 1000, 123456789, most - 1000, most - 1, most} {
		for _, unit := range []string{"EX", "PX", "EXAT", "PXAT"} {
			base, step := uint64(0), uint64(1)
			if unit == "EX" || unit == "PX" {
				base = clock
			}
			if unit == "EX" || unit == "EXAT" {
				step = 1000
			}
			last := (most - base) / step
			for _, n := range []uint64{1, 2, last / 2, last - 1, last, last + 1, last + 2, most, most + 1, 1 << 53, 1 << 54, 18446744073709552, 18446744073709551615/1000 + 1, 9223372036854775, 9223372036854776, 9223372036854775807} {
				if n == 0 || n > 1<<63-1 {
					continue
				}
				for _, line := range []string{"SET k v %s %d", "GETEX k %s %d", "SETEX k %[2]d v", "PSETEX k %[2]d v"} {
					if line[0] == 'S' && line[3] == 'E' && unit != "EX" || line[0] == 'P' && unit != "PX" {
						continue
					}
					s := made(t, 4000)
					play(t, s, clock, row{"SET k v", "OK"})
					good := row{fmt.Sprintf(line, unit, n), "OK"}
					if line[0] == 'G' {
						good.want = `"v"`
					}
					want := uint64(0)
					if n > last {
						good.want = api.BadTime
					} else {
						want = base + step*n
					}
					play(t, s, clock, good)
					if want != 0 && want <= clock {
						wantGone(t, s, "k")
					} else {
						wantDeadline(t, s, "k", want)
					}
				}
			}
		}
	}
	for _, n := range []string{"0", "-1", "-1000", "-9223372036854775808"} {
		for _, line := range []string{"SET k v EX ", "SET k v PX ", "SET k v EXAT ", "SET k v PXAT ", "GETEX k EX ", "GETEX k PX ", "GETEX k EXAT ", "GETEX k PXAT "} {
			play(t, made(t, 4000), 5000, row{line + n, api.BadTime})
		}
		play(t, made(t, 4000), 5000, row{"SETEX k " + n + " v", api.BadTime}, row{"PSETEX k " + n + " v", api.BadTime})
	}
	for _, n := range []string{"9223372036854775808", "-9223372036854775809", "x", "1x"} {
		play(t, made(t, 4000), 5000, row{"SET k v EX " + n, api.BadInt}, row{"GETEX k PXAT " + n, api.BadInt}, row{"SETEX k " + n + " v", api.BadInt}, row{"PSETEX k " + n + " v", api.BadInt})
	}
}

// TestP11_4_TheKeyLivesUpToItsDeadline.
func TestP11_4_TheKeyLivesUpToItsDeadline(t *testing.T) {
	s := made(t, 4000)
	play(t, s, 1000, row{"SET k v PX 10", "OK"})
	play(t, s, 1009, row{"SET k v NX", "nil"}, row{"GET k", `"v"`})
	play(t, s, 1010, row{"GET k", "nil"}, row{"SET k w XX", "nil"}, row{"SET k w NX KEEPTTL", "OK"})
	wantDeadline(t, s, "k", 0)
	// The time counts from the clock, not from a reading behind it.
	play(t, s, 3, row{"SET k v PX 10", "OK"})
	wantDeadline(t, s, "k", 1020)
}

func TestP11_5_OneKey(t *testing.T) {
	s := made(t, 4000)
	play(t, s, 1000,
		row{"SETNX k a", 1}, row{"SETNX k b", 0}, row{"GET k", `"a"`},
		row{"SETEX k 2 c", "OK"}, row{"SETNX k d", 0})
	wantText(t, s, "k", "c")
	wantDeadline(t, s, "k", 3000)
	play(t, s, 1000, row{"PSETEX k 2 e", "OK"})
	wantText(t, s, "k", "e")
	wantDeadline(t, s, "k", 1002)
	play(t, s, 1000, row{"GETSET k f", `"e"`})
	wantText(t, s, "k", "f")
	wantDeadline(t, s, "k", 0)
	play(t, s, 1000, row{"GETSET n g", "nil"}, row{"GET n", `"g"`}, row{`GETSET n ""`, `"g"`}, row{"GETSET n h", `""`}, row{"GETDEL n", `"h"`})
	wantGone(t, s, "n")
	play(t, s, 1000, row{"GETDEL n", "nil"})
	wantGone(t, s, "n")
	play(t, s, 1000, row{"SETEX k 2 c", "OK"})
	play(t, s, 3000, row{"SETNX k d", 1}, row{"SETEX k x FOO", api.BadInt})
	wantDeadline(t, s, "k", 0)
}

func TestP11_5_Getex(t *testing.T) {
	s := made(t, 4000)
	play(t, s, 1000, row{"SET k v PX 500", "OK"}, row{"GETEX k", `"v"`})
	wantDeadline(t, s, "k", 1500)
	for _, c := range []struct {
		option string
		want   uint64
	}{{"EX 5", 6000}, {"PX 5", 1005}, {"EXAT 5", 5000}, {"PXAT 5", 0}, {"PERSIST", 0}, {"persist", 0}, {"exat 9", 9000}} {
		play(t, s, 1000, row{"SET k v PX 500", "OK"}, row{"GETEX k " + c.option, `"v"`})
		if c.option == "PXAT 5" {
			wantGone(t, s, "k")
			continue
		}
		wantText(t, s, "k", "v")
		wantDeadline(t, s, "k", c.want)
		play(t, s, 1000, row{"GETEX none " + c.option, "nil"})
		wantGone(t, s, "none")
	}
	play(t, s, 1000, row{"SET k v PX 500", "OK"})
	for _, key := range []string{"k", "none"} {
		for _, option := range []string{"EX", "PX", "EXAT", "PXAT", "KEEPTTL", "NX", "GET", `""`, "5", "PERSIST PERSIST", "PERSIST EX 5", "PERSIST EX", "PERSIST x", "EX 5 PX 5", "EX 5 PERSIST", "EX 5 EX x", "PXAT 5 FOO", "EX 5 5"} {
			play(t, s, 1000, row{"GETEX " + key + " " + option, api.BadSyntax})
		}
		play(t, s, 1000, row{"GETEX " + key + " EX x", api.BadInt}, row{"GETEX " + key + " EX x EX", api.BadInt}, row{"GETEX " + key + " PX 0", api.BadTime}, row{"GETEX " + key + " PX 0 PERSIST", api.BadTime})
	}
	wantText(t, s, "k", "v")
	wantDeadline(t, s, "k", 1500)
}

func TestP11_6_Many(t *testing.T) {
	s := made(t, 4000)
	play(t, s, 1000,
		row{"MGET a", "[nil]"}, row{"SET a 1 PX 9", "OK"}, row{"MSET a 2 b 3", "OK"}, row{"MGET a b c a", `["2" "3" nil "2"]`})
	wantDeadline(t, s, "a", 0)
	play(t, s, 1000,
		row{"MSET a x b y a z", "OK"}, row{"MGET a b", `["z" "y"]`}, row{`MSET "" "" a ""`, "OK"}, row{`MGET "" a`, `["" ""]`},
		row{"SET c 1 PX 9", "OK"}, row{"MSETNX d 1 c 2", 0}, row{"MSETNX c 2 d 1", 0}, row{"MSETNX d 1 d 2 b 3", 0}, row{"MGET c d", `["1" nil]`})
	wantDeadline(t, s, "c", 1009)
	play(t, s, 1009, row{"MSETNX c 2 d 1 c 3", 1}, row{"MGET c d", `["3" "1"]`})
	wantDeadline(t, s, "c", 0)
	for _, name := range []string{"MSET", "MSETNX"} {
		play(t, s, 1009, row{name + " a", api.BadArity}, row{name + " n 1 m", api.BadArity}, row{name, api.BadArity}, row{name + " n 1 m 2 o", api.BadArity})
	}
	wantGone(t, s, "n")
}

// TestP11_15_MSETIsItsSETs: drawn pairs, once as one command and once as many.
func TestP11_15_MSETIsItsSETs(t *testing.T) {
	for i := range 40 {
		one, many := made(t, 4000), made(t, 4000)
		command := []string{"MSET"}
		for j := range i%9 + 1 {
			key, value := fmt.Sprint(j*j%(i%5+1)), wide(i*j%40)
			command = append(command, key, value)
			if r := text.Do(many, 0, 1, args("SET", key, value)); told(r) != "OK" {
				t.Errorf("SET: %s", told(r))
			}
		}
		if r := text.Do(one, 0, 1, args(command...)); told(r) != "OK" {
			t.Errorf("MSET: %s", told(r))
		}
		if picture(one) != picture(many) {
			t.Errorf("%v:\n%s, not\n%s", command, picture(one), picture(many))
		}
	}
}
