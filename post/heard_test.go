package post_test

import (
	"strings"
	"testing"

	"larder/api"
	"larder/post"
)

func TestP17_5_Order(t *testing.T) {
	p := post.New()
	patterns := []string{"a*", "*", "?", "[a-z]", "a", "z*", "**", "[^b]", `\a`, "", "b", "*a*"}
	for _, conn := range []int{7, 2, 5} {
		join(t, p, conn, true, patterns...)
	}
	join(t, p, 5, false, "a")
	join(t, p, 0, false, "a", "b")
	join(t, p, 6, false, "b")
	var want []api.Hit
	want = append(want, byName(0, "a"))
	for _, conn := range []int{2, 5, 7} {
		if conn == 5 {
			want = append(want, byName(5, "a"))
		}
		for _, pattern := range []string{"*", "**", "*a*", "?", "[^b]", "[a-z]", `\a`, "a", "a*"} {
			want = append(want, byPattern(conn, pattern))
		}
	}
	for range 20 {
		wantHeard(t, p, "a", want...)
	}
}

func TestP17_5_SortedByBytes(t *testing.T) {
	p := post.New()
	join(t, p, 1, true, "*\xff", "\xff*", "?", "[\x00-\xff]", "*", "**", "\xff")
	wantHeard(t, p, "\xff", byPattern(1, "*"), byPattern(1, "**"), byPattern(1, "*\xff"), byPattern(1, "?"), byPattern(1, "[\x00-\xff]"), byPattern(1, "\xff"), byPattern(1, "\xff*"))
}

func TestP17_5_AChannelIsNoPattern(t *testing.T) {
	p := post.New()
	join(t, p, 1, false, "n*", "*", "?")
	join(t, p, 2, true, "n*")
	wantHeard(t, p, "news", byPattern(2, "n*"))
	wantHeard(t, p, "n*", byName(1, "n*"), byPattern(2, "n*"))
	wantHeard(t, p, "*", byName(1, "*"))
	wantHeard(t, p, "?", byName(1, "?"))
	wantHeard(t, p, "N*")
}

func TestP17_5_APatternIsMetNotCompared(t *testing.T) {
	p := post.New()
	join(t, p, 1, true, "[ab]", `x\`, `\*`, "[")
	wantHeard(t, p, "[ab]")
	wantHeard(t, p, "a", byPattern(1, "[ab]"))
	wantHeard(t, p, `x\`, byPattern(1, `x\`))
	wantHeard(t, p, "*", byPattern(1, `\*`))
	wantHeard(t, p, `\*`)
	wantHeard(t, p, "[")
}

func TestP17_5_LongChannels(t *testing.T) {
	p := post.New()
	join(t, p, 1, false, long(api.MaxText))
	join(t, p, 1, true, long(api.MaxText), "x*")
	join(t, p, 2, true, "*", long(api.MaxText-1)+"*")
	wantHeard(t, p, long(api.MaxText), byName(1, long(api.MaxText)), byPattern(1, "x*"), byPattern(1, long(api.MaxText)), byPattern(2, "*"), byPattern(2, long(api.MaxText-1)+"*"))
	for _, bytes := range []int{api.MaxText + 1, api.MaxText * 2, 1 << 20} {
		wantHeard(t, p, long(bytes), byPattern(1, "x*"), byPattern(2, "*"), byPattern(2, long(api.MaxText-1)+"*"))
	}
	wantHeard(t, p, "y"+long(1<<20), byPattern(2, "*"))
}

func TestP17_6_Sorted(t *testing.T) {
	p := post.New()
	for _, name := range []string{"b", "", "ab", "a", "a\x00", "\xff", "B", "é", "\x00"} {
		join(t, p, 4, false, name)
		join(t, p, 4, true, name+"!")
		join(t, p, 3, false, "3"+name)
	}
	for range 20 {
		wantNames(t, p, 4, false, "", "\x00", "B", "a", "a\x00", "ab", "b", "é", "\xff")
		wantNames(t, p, 4, true, "\x00!", "!", "B!", "a\x00!", "a!", "ab!", "b!", "é!", "\xff!")
	}
	wantCount(t, p, 4, 18)
	wantCount(t, p, 3, 9)
	wantCount(t, p, 5, 0)
	wantNames(t, p, 5, false)
}

func TestP17_6_NoConnection(t *testing.T) {
	p := post.New()
	for conn := range api.MaxConns {
		join(t, p, conn, false, "a")
		join(t, p, conn, true, "a")
	}
	for _, conn := range noConns {
		wantNames(t, p, conn, false)
		wantNames(t, p, conn, true)
		wantCount(t, p, conn, 0)
	}
}

func TestP17_7_Channels(t *testing.T) {
	p := post.New()
	for _, conn := range []int{6, 1, 3} {
		join(t, p, conn, false, "b", "", "ab", "a", "a\x00", "\xff", "*")
		join(t, p, conn, true, "pattern", "a", "[a")
	}
	join(t, p, 0, false, "alone")
	for range 20 {
		wantChannels(t, p, "*", "", "*", "a", "a\x00", "ab", "alone", "b", "\xff")
	}
	wantChannels(t, p, "a*", "a", "a\x00", "ab", "alone")
	wantChannels(t, p, "?", "*", "a", "b", "\xff")
	wantChannels(t, p, "", "")
	wantChannels(t, p, "[^a]", "*", "b", "\xff")
	wantChannels(t, p, `\*`, "*")
	wantChannels(t, p, "[a", "a")
	wantChannels(t, p, "pattern")
	wantChannels(t, p, strings.Repeat("*", 3*api.MaxText)+"b", "ab", "b")
	wantChannels(t, p, long(3*api.MaxText))
	for _, conn := range []int{6, 1} {
		p.Leave(conn, "b", false)
		wantChannels(t, p, "b", "b")
	}
	p.Drop(3)
	wantChannels(t, p, "b")
	wantChannels(t, p, "a*", "a", "a\x00", "ab", "alone")
}

func TestP17_7_Listeners(t *testing.T) {
	p := post.New()
	for conn := range api.MaxConns {
		wantListeners(t, p, "a", conn)
		join(t, p, conn, false, "a")
		join(t, p, conn, true, "a", "*", "b")
	}
	wantListeners(t, p, "a", api.MaxConns)
	wantListeners(t, p, "*", 0)
	wantListeners(t, p, "b", 0)
	wantListeners(t, p, "A", 0)
	wantListeners(t, p, "", 0)
	join(t, p, 3, false, long(api.MaxText))
	wantListeners(t, p, long(api.MaxText), 1)
	wantListeners(t, p, long(api.MaxText+1), 0)
	p.Leave(0, "a", false)
	p.Leave(1, "a", true)
	wantListeners(t, p, "a", api.MaxConns-1)
}

func TestP17_7_Patterns(t *testing.T) {
	p := post.New()
	join(t, p, 0, false, "channel", "*")
	wantPatterns(t, p, 0)
	for conn := range api.MaxConns {
		join(t, p, conn, true, "*", "", "a")
	}
	wantPatterns(t, p, 3)
	// Patterns that mean the same are unlike all the same.
	join(t, p, 5, true, "**", "[a]", "A", string(rune('a'+5)))
	wantPatterns(t, p, 7)
	for conn := range api.MaxConns {
		wantPatterns(t, p, 7)
		p.Leave(conn, "*", true)
	}
	wantPatterns(t, p, 6)
	p.Drop(5)
	wantPatterns(t, p, 2)
}
