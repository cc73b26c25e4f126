package board_test

import (
	"fmt"
	"slices"
	"strings"
	"testing"
	"time"

	"larder/api"
	"larder/space"
)

// TestP15_8_Values: a list's elements, a set's and a ranked set's members, nothing; and what is no row of elements.
func TestP15_8_Values(t *testing.T) {
	s := made(t, 8000)
	store(t, s, "l", listOf("3 1 2 1"), 0)
	store(t, s, "s", setOf("1 10 9"), 0)
	store(t, s, "z", rankOf("-1 7 0 5 0 6 9 1"), 0)
	store(t, s, "t", textOf("1"), 0)
	store(t, s, "h", hashOf("1 1"), 0)
	play(t, s, 0,
		row{"SORT l", bulks("1 1 2 3")}, row{"SORT s", bulks("1 9 10")}, row{"SORT z", bulks("1 5 6 7")}, row{"SORT none", "[]"}, row{"@1 SORT l", "[]"},
		row{"SORT l BY x", bulks("3 1 2 1")}, row{"SORT s BY x", bulks("1 10 9")}, row{"SORT z BY x", bulks("7 5 6 1")}, row{"SORT none BY x", "[]"},
		row{"SORT l BY x DESC", bulks("1 2 1 3")}, row{"SORT s BY x DESC", bulks("9 10 1")}, row{"SORT z BY x DESC", bulks("1 6 5 7")}, row{"SORT none BY x* DESC", "[]"},
		row{"SORT t", api.BadKind}, row{"SORT h", api.BadKind}, row{"SORT h ALPHA STORE l", api.BadKind}, row{"SORT t BY x", api.BadKind}, row{"SORT t LIMIT 0 0", api.BadKind})
	wantChanged(t, s)
	play(t, s, 0, row{"PEXPIRE l 5", 1})
	play(t, s, 5, row{"SORT l", "[]"})
}

// TestP15_8_Weights: as numbers and as texts.
func TestP15_8_Weights(t *testing.T) {
	s := made(t, 8000)
	store(t, s, "l", listOf("10 9 2 -1 0 "+greatest+" "+least+" 100"), 0)
	store(t, s, "w", listOf(`b a "" B ab "\x00" a "\xff"`), 0)
	play(t, s, 0,
		row{"SORT l", bulks(least + " -1 0 2 9 10 100 " + greatest)}, row{"SORT l ASC", bulks(least + " -1 0 2 9 10 100 " + greatest)}, row{"SORT l DESC", bulks(greatest + " 100 10 9 2 0 -1 " + least)},
		row{"SORT l ALPHA", bulks("-1 " + least + " 0 10 100 2 9 " + greatest)}, row{"SORT l ALPHA DESC", bulks(greatest + " 9 2 100 10 0 " + least + " -1")},
		row{"SORT w ALPHA", bulks(`"" "\x00" B a a ab b "\xff"`)}, row{"SORT w DESC ALPHA", bulks(`"\xff" b ab a a B "\x00" ""`)}, row{"SORT w", api.BadInt})
	for _, odd := range []string{"x", `""`, "1.5", "+1", "01", "-0", "9223372036854775808", "-9223372036854775809", `"\x201"`} {
		store(t, s, "o", listOf("1 2 "+odd), 0)
		// All are weighed, whatever is left of them.
		play(t, s, 0, row{"SORT o", api.BadInt}, row{"SORT o DESC", api.BadInt}, row{"SORT o LIMIT 0 0", api.BadInt}, row{"SORT o LIMIT 0 1", api.BadInt}, row{"SORT o GET x", api.BadInt}, row{"SORT o STORE o", api.BadInt}, row{"SORT o LIMIT 0 2 STORE to", api.BadInt}, row{"SORT o BY x", bulks("1 2 " + odd)}, row{"SORT o BY x*", quoted(sorted(words("1 2 " + odd)))})
	}
	// A list of one is weighed too.
	store(t, s, "o", listOf("x"), 0)
	play(t, s, 0, row{"SORT o", api.BadInt}, row{"SORT o ALPHA", bulks("x")})
}

// TestP15_8_By: what a pattern finds, and what counts where it finds nothing.
func TestP15_8_By(t *testing.T) {
	s := made(t, 8000)
	store(t, s, "l", listOf("a b c d e"), 0)
	store(t, s, "w_a", textOf("5"), 0)
	store(t, s, "w_b", textOf("-5"), 0)
	store(t, s, "w_c", listOf("9"), 0)
	store(t, s, "w_d", hashOf("f 3 n 8"), 0)
	store(t, s, "h_a", hashOf("f -1"), 0)
	store(t, s, "h_b", hashOf("f 20 g 1"), 0)
	store(t, s, "h_c", setOf("f"), 0)
	store(t, s, "h_d", hashOf(`g 2 "" 7`), 0)
	store(t, s, "h_e", rankOf("4 f"), 0)
	storeIn(t, s, 1, "w_e", textOf("1000"), 0)
	play(t, s, 0,
		// Texts alone lie under a key: what is no text counts as 0.
		row{"SORT l BY w_*", bulks("b c d e a")}, row{"SORT l BY w_* DESC", bulks("a e d c b")}, row{"SORT l BY w_* ALPHA", bulks("c d e b a")},
		row{"SORT l BY h_*->f", bulks("a c d e b")}, row{"SORT l BY h_*->g", bulks("a c e b d")}, row{"SORT l BY h_*->none", bulks("a b c d e")}, row{"SORT l BY h_*->f ALPHA", bulks("c d e a b")}, row{"SORT l BY w_*->f", bulks("a b c e d")},
		// '->' with nothing behind it belongs to the key.
		row{"SORT l BY h_*->", bulks("a b c d e")},
		// In another database there is nothing but w_e.
		row{"SORT l BY *", bulks("a b c d e")}, row{"SORT l BY none*", bulks("a b c d e")}, row{"SORT l BY none* DESC", bulks("e d c b a")},
		// Without a star nothing is weighed.
		row{"SORT l BY w_a", bulks("a b c d e")}, row{"SORT l BY h_a->f DESC", bulks("e d c b a")}, row{`SORT l BY ""`, bulks("a b c d e")}, row{"SORT l BY #", bulks("a b c d e")}, row{"SORT l BY ? DESC", bulks("e d c b a")})
	storeIn(t, s, 1, "l", listOf("d e"), 0)
	play(t, s, 0, row{"@1 SORT l BY w_*", bulks("d e")}, row{"@1 SORT l BY w_* DESC", bulks("e d")}, row{"SET w_e x", "OK"}, row{"SORT l BY w_*", api.BadInt}, row{"SORT l BY w_* LIMIT 0 1", api.BadInt}, row{"SORT l BY w_* ALPHA", bulks("c d b a e")}, row{`SET w_e ""`, "OK"}, row{"SORT l BY w_*", api.BadInt}, row{"SORT l BY w_* ALPHA", bulks("c d e b a")}, row{"HSET h_e->f x 3", 1})
	// The first star alone is filled.
	store(t, s, "2", listOf("a b"), 0)
	store(t, s, "xa*", textOf("2"), 0)
	store(t, s, "xb*", textOf("1"), 0)
	store(t, s, "p->a", textOf("4"), 0)
	store(t, s, "p->b", textOf("3"), 0)
	store(t, s, "a", hashOf("* 9"), 0)
	store(t, s, "b", hashOf("* 8 f->g 1"), 0)
	play(t, s, 0, row{"SORT 2 BY x**", bulks("b a")}, row{"SORT 2 BY p->*", bulks("b a")}, row{"SORT 2 BY *->*", bulks("b a")}, row{"SORT 2 BY *->f->g DESC", bulks("b a")}, row{"SORT 2 BY *->f->g", bulks("a b")})
}

// TestP15_8_Ties: those of one weight stand by their bytes, and DESC turns that round too.
func TestP15_8_Ties(t *testing.T) {
	s := made(t, 8000)
	store(t, s, "l", listOf(`c "" b ab a b d`), 0)
	for _, name := range []string{"a", "c", "d"} {
		store(t, s, "w"+name, textOf("1"), 0)
	}
	play(t, s, 0,
		row{"SORT l BY w*", bulks(`"" ab b b a c d`)}, row{"SORT l BY w* DESC", bulks(`d c a b b ab ""`)}, row{"SORT l BY w* ALPHA", bulks(`"" ab b b a c d`)}, row{"SORT l BY w* LIMIT 3 2", bulks("b a")}, row{"SORT l BY w* DESC LIMIT 3 2", bulks("b b")})
}

func TestP15_8_Limit(t *testing.T) {
	s := made(t, 8000)
	store(t, s, "l", listOf("4 0 3 1 2"), 0)
	all := words("0 1 2 3 4")
	numbers := []int64{0, 1, 2, 4, 5, 6, -1, -5, 1<<63 - 1, -1 << 63, 1 << 32, 1<<63 - 3}
	for _, offset := range numbers {
		for _, count := range numbers {
			var want, back []string
			for i := range all {
				if int64(i) >= offset && (count < 0 || len(want) < int(min(count, 9))) {
					want, back = append(want, all[i]), append(back, all[len(all)-1-i])
				}
			}
			limit := fmt.Sprintf(" LIMIT %d %d", offset, count)
			play(t, s, 0, row{"SORT l" + limit, quoted(want)}, row{"SORT l DESC" + limit, quoted(back)}, row{"SORT l" + limit + " STORE to", len(want)}, row{"LRANGE to 0 -1", quoted(want)}, row{"SORT none" + limit, "[]"})
		}
	}
	play(t, s, 0, row{"SORT l BY x LIMIT 1 2", bulks("0 3")}, row{"SORT l BY x DESC LIMIT 1 2", bulks("1 3")}, row{"SORT l LIMIT 1 2 BY x", bulks("0 3")})
}

// TestP15_8_Get: what is told of each element.
func TestP15_8_Get(t *testing.T) {
	s := made(t, 8000)
	store(t, s, "l", listOf("2 1"), 0)
	store(t, s, "t1", textOf("one"), 0)
	store(t, s, "t2", textOf(""), 0)
	store(t, s, "h1", hashOf(`"" e f eins g uno`), 0)
	store(t, s, "h2", setOf("f"), 0)
	store(t, s, "#", textOf("no"), 0)
	store(t, s, "#1", textOf("number"), 0)
	play(t, s, 0,
		row{"SORT l GET #", bulks("1 2")}, row{"SORT l GET # GET #", bulks("1 1 2 2")}, row{"SORT l GET t*", bulks(`one ""`)}, row{"SORT l GET h*", "[nil nil]"}, row{"SORT l GET h*->f", `["eins" nil]`}, row{"SORT l GET h*->g GET t* GET none* GET #", `["uno" "one" nil "1" nil "" nil "2"]`}, row{"SORT l GET t*->f", "[nil nil]"}, row{"SORT l GET h*->", "[nil nil]"}, row{"SORT l GET #*", `["number" nil]`}, row{"SORT l GET t1", "[nil nil]"}, row{`SORT l GET ""`, "[nil nil]"}, row{"SORT l GET ## DESC", "[nil nil]"}, row{"SORT l GET * DESC", "[nil nil]"},
		row{"SORT l GET # DESC GET t*", `["2" "" "1" "one"]`}, row{"SORT l BY x GET # GET h*->f", `["2" nil "1" "eins"]`}, row{"SORT l LIMIT 1 1 GET # GET t*", bulks(`2 ""`)}, row{"SORT none GET #", "[]"}, row{"SORT l LIMIT 0 0 GET #", "[]"})
	wantChanged(t, s)
	// An element that fills a pattern to more than a key can have finds nothing.
	long := wide(api.MaxText)
	store(t, s, "w", listOf(long+" 5"), 0)
	store(t, s, long, textOf("long"), 0)
	play(t, s, 0, row{"SORT w ALPHA GET t*", "[nil nil]"}, row{"SORT w ALPHA GET *", `[nil "long"]`}, row{"SORT w ALPHA DESC GET *->f GET *x", "[nil nil nil nil]"}, row{"SORT w BY t* GET t*", "[nil nil]"})
	if got := told(do(s, 0, "SORT w BY x"+strings.Repeat("y", 4000)+"* GET #")); got != quoted([]string{"5", long}) {
		t.Errorf("by a long pattern: %s", brief(got))
	}
}

// TestP15_8_Store: over a value of each kind, of what was found and of what was not.
func TestP15_8_Store(t *testing.T) {
	for kind, v := range kinds() {
		fresh := func() *space.Space {
			s := made(t, 8000)
			store(t, s, "l", listOf("3 1 2"), 90)
			store(t, s, "t1", textOf("one"), 0)
			if kind != api.ValNone {
				store(t, s, "d", v, 50)
			}
			return s
		}
		s := fresh()
		play(t, s, 0, row{"SORT l STORE d", 3})
		wantAt(t, s, at(0, "d"), listOf("1 2 3"), 0)
		wantChanged(t, s, at(0, "d"))
		play(t, s, 0, row{"SORT l STORE d", 3})
		wantChanged(t, s)
		wantAt(t, s, at(0, "l"), listOf("3 1 2"), 90)

		s = fresh()
		play(t, s, 0, row{"SORT l GET t* STORE d GET # DESC", 6})
		wantAt(t, s, at(0, "d"), listOf(`"" 3 "" 2 one 1`), 0)

		for _, line := range []string{"SORT none STORE d", "SORT l LIMIT 3 9 STORE d", "SORT l STORE d LIMIT 0 0", "SORT none GET # STORE d"} {
			s = fresh()
			play(t, s, 0, row{line, 0})
			wantGone(t, s, "d")
			if kind != api.ValNone {
				wantChanged(t, s, at(0, "d"))
			}
		}
	}
	s := made(t, 8000)
	store(t, s, "l", listOf("3 1 2"), 90)
	play(t, s, 0, row{"SORT l STORE l", 3})
	wantAt(t, s, at(0, "l"), listOf("1 2 3"), 0)
	play(t, s, 0, row{"@2 SORT l STORE l", 0}, row{"SORT l BY x DESC STORE l", 3}, row{"LRANGE l 0 -1", bulks("3 2 1")}, row{"SORT l LIMIT 9 9 STORE l", 0}, row{"EXISTS l", 0})
	store(t, s, "z", rankOf("5 2 6 1"), 90)
	play(t, s, 0, row{"SORT z STORE z", 2}, row{"TYPE z", "list"}, row{"PTTL z", -1}, row{`SORT z GET none* STORE ""`, 2}, row{`LRANGE "" 0 -1`, bulks(`"" ""`)})
	// What a pattern finds is what was there ahead of what is stored.
	store(t, s, "l", listOf("1 2"), 0)
	store(t, s, "k1", textOf("x"), 0)
	play(t, s, 0, row{"SORT l GET k* STORE k1", 2}, row{"LRANGE k1 0 -1", bulks(`x ""`)})
}

func TestP15_8_Words(t *testing.T) {
	s := made(t, 8000)
	store(t, s, "l", listOf("2 1"), 0)
	store(t, s, "t", textOf("1"), 0)
	for _, key := range []string{"l", "none", "t"} {
		for _, c := range []row{
			{"BY", api.BadSyntax}, {"GET", api.BadSyntax}, {"STORE", api.BadSyntax}, {"LIMIT", api.BadSyntax}, {"LIMIT 0", api.BadSyntax}, {"LIMIT x", api.BadSyntax}, {"ALPHA BY", api.BadSyntax}, {"GET # GET", api.BadSyntax}, {"BY x BY x", api.BadSyntax}, {"LIMIT 0 1 LIMIT 0 1", api.BadSyntax}, {"LIMIT 0 1 LIMIT x", api.BadSyntax}, {"STORE d STORE d", api.BadSyntax}, {"STORE d BY x STORE e", api.BadSyntax}, {"ALPHA ALPHA", api.BadSyntax}, {"ASC ASC", api.BadSyntax}, {"DESC DESC", api.BadSyntax}, {"ASC DESC", api.BadSyntax}, {"DESC ASC", api.BadSyntax}, {"UP", api.BadSyntax}, {`""`, api.BadSyntax}, {"5", api.BadSyntax}, {"BYE x", api.BadSyntax}, {"GET # x", api.BadSyntax}, {"LIMIT 0 1 2", api.BadSyntax},
			{"LIMIT x 1", api.BadInt}, {"LIMIT 1 x", api.BadInt}, {"LIMIT x y", api.BadInt}, {`LIMIT "" 1`, api.BadInt}, {"LIMIT 9223372036854775808 1", api.BadInt}, {"LIMIT 0 01", api.BadInt}, {"LIMIT x 1 x", api.BadInt}, {"x LIMIT x 1", api.BadSyntax}, {"LIMIT ASC DESC", api.BadInt}, {"ASC LIMIT 0 x DESC", api.BadInt},
		} {
			play(t, s, 0, row{"SORT " + key + " " + c.line, c.want})
		}
	}
	play(t, s, 0,
		row{"SORT l BY BY GET GET ALPHA", "[nil nil]"}, row{"SORT l STORE STORE BY x GET #", 2}, row{"LRANGE STORE 0 -1", bulks("2 1")}, row{"sort l limit 0 1 desc", bulks("2")}, row{"SORT l GET ALPHA GET #", `[nil "1" nil "2"]`}, row{"SORT SORT", "[]"}, row{"SORT", api.BadArity})
}

// wantMany holds how many replies a command is answered with; 0: that they would be too many, or too long.
func wantMany(t *testing.T, s *space.Space, line string, want int) {
	t.Helper()
	before := picture(s)
	r := do(s, 0, line)
	if want == 0 && told(r) != refusal(api.BadLong) || len(r.List) != want {
		t.Errorf("%s: %d replies, %s", brief(line), len(r.List), brief(told(r)))
	}
	line += " STORE g"
	if got := told(do(s, 0, line)); want == 0 && (got != refusal(api.BadLong) || picture(s) != before) {
		t.Errorf("%s: %s", brief(line), got)
	}
}

// TestP15_8_TooManyBytes: all that is told has at most MaxSort bytes, stored or not; what isn't found has none.
func TestP15_8_TooManyBytes(t *testing.T) {
	const size = 2048
	fresh := func() *space.Space {
		s := made(t, api.MaxQuota)
		for i := range 17 {
			do(s, 0, fmt.Sprintf("RPUSH g %d%s", 1000+i, wide(size-4)))
		}
		do(s, 0, "SET e1000"+wide(size-4)+` ""`)
		do(s, 0, "SET k1000"+wide(size-4)+" x")
		return s
	}
	for _, c := range []struct {
		options string
		want    int
	}{
		{"ALPHA GET # GET #", 0}, {"BY x GET # GET #", 0}, {"ALPHA", 17}, {"ALPHA GET # GET # LIMIT 0 16", 32}, {"ALPHA GET # GET # LIMIT 1 16", 32}, {"BY x GET # GET # LIMIT 0 16", 32}, {"ALPHA GET # GET # GET # LIMIT 0 11", 0}, {"ALPHA GET # GET # GET # LIMIT 0 10", 30},
		{"ALPHA GET # GET # GET none* LIMIT 0 16", 48}, {"ALPHA GET # GET # GET e* LIMIT 0 16", 48}, {"ALPHA GET # GET # GET k* LIMIT 0 16", 0}, {"ALPHA GET k* GET # GET # LIMIT 0 16", 0}, {"ALPHA GET # GET # GET k* LIMIT 1 16", 48}, {"ALPHA DESC GET k* GET # GET # LIMIT 0 16", 48}, {"ALPHA DESC GET k* GET # GET # LIMIT 1 16", 0},
	} {
		wantMany(t, fresh(), "SORT g "+c.options, c.want)
	}
	// What can't be weighed is told ahead of that.
	play(t, fresh(), 0, row{"SORT g GET # GET #", api.BadInt}, row{"SORT g GET # GET # LIMIT 0 1", api.BadInt}, row{"SORT g GET # GET # STORE d", api.BadInt}, row{"SORT g ALPHA GET # GET # LIMIT 0 0", "[]"}, row{"SORT g ALPHA GET # GET # LIMIT 17 1", "[]"})
}

// TestP15_8_TooManyReplies: at most MaxReply, be each of them nil.
func TestP15_8_TooManyReplies(t *testing.T) {
	// As many elements as the greatest quota has room for: so 65536 and 65537 can't be asked for, but the numbers next to them can.
	const most = 2043
	s := made(t, api.MaxQuota)
	store(t, s, "g", api.Value{Kind: api.ValList, List: make([][]byte, most)}, 0)
	for _, c := range []struct{ elements, gets, want int }{
		{1285, 51, 65535}, {1986, 33, 0}, {most, 32, 65376}, {most, 33, 0}, {1040, 63, 65520}, {1041, 63, 0}, {1816, 63, 0},
	} {
		line := fmt.Sprintf("SORT g BY x LIMIT 0 %d", c.elements)
		if c.gets == 63 {
			// There is room for no word but GET: the list itself has so many elements.
			s = made(t, api.MaxQuota)
			store(t, s, "g", numbersOf(c.elements), 0)
			line = "SORT g"
		}
		r := do(s, 0, line+strings.Repeat(" GET x", c.gets))
		if c.want == 0 && told(r) != refusal(api.BadLong) || len(r.List) != c.want {
			t.Errorf("%d elements, %d patterns: %d replies, %s", c.elements, c.gets, len(r.List), brief(told(r)))
		}
		if c.gets < 60 {
			want := refusal(api.BadLong)
			if c.want != 0 {
				// It is laid as a list that no quota has room for.
				want = refusal(api.BadOOM)
			}
			if got := told(do(s, 0, line+strings.Repeat(" GET x", c.gets)+" STORE d")); got != want {
				t.Errorf("%d elements, %d patterns, stored: %s, want %s", c.elements, c.gets, got, want)
			}
			wantRoom(t, s)
		}
	}
}

// numbersOf is a list of so many numbers.
func numbersOf(n int) api.Value {
	v := api.Value{Kind: api.ValList}
	for i := range n {
		v.List = append(v.List, []byte{'0' + byte(i%10)})
	}
	return v
}

// TestP15_8_OneGreatHash: as many answers as may be, each out of it, take little.
func TestP15_8_OneGreatHash(t *testing.T) {
	const fields, elements, gets = 250, 1000, 62
	s := made(t, api.MaxQuota)
	store(t, s, "l", api.Value{Kind: api.ValList, List: slices.Repeat([][]byte{[]byte("1")}, elements)}, 0)
	v := api.Value{Kind: api.ValHash}
	for i := range fields {
		v.Pairs = append(v.Pairs, api.Pair{Field: []byte(fmt.Sprint("f", i)), Value: []byte{'0' + byte(i%10)}})
	}
	store(t, s, "h1", v, 0)
	start := time.Now()
	for range 5 {
		r := do(s, 0, "SORT l BY h*->f7"+strings.Repeat(" GET h*->f249", gets))
		if len(r.List) != elements*gets || told(r.List[elements]) != `"9"` {
			t.Fatalf("%d replies: %s", len(r.List), brief(told(r)))
		}
		if time.Since(start) > 10*time.Second {
			t.Fatalf("it took %v", time.Since(start))
		}
	}
}
