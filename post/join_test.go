package post_test

import (
	"strconv"
	"testing"

	"larder/api"
	"larder/post"
)

func TestP17_1_NobodyListens(t *testing.T) {
	wantNobody(t, post.New())
}

func TestP17_1_NewOnesStandAlone(t *testing.T) {
	p := post.New()
	join(t, p, 0, false, "news")
	join(t, p, 1, true, "n*")
	q := post.New()
	wantNobody(t, q)
	join(t, q, 2, false, "other")
	q.Drop(0)
	q.Leave(1, "n*", true)
	wantCount(t, p, 2, 0)
	wantHeard(t, p, "news", byName(0, "news"), byPattern(1, "n*"))
}

func TestP17_2_EveryConnection(t *testing.T) {
	p := post.New()
	for conn := range api.MaxConns {
		wantJoin(t, p, conn, "a", false, 1, true, api.OK)
		wantJoin(t, p, conn, "a", true, 2, true, api.OK)
		wantJoin(t, p, conn, "b", true, 3, true, api.OK)
		wantJoin(t, p, conn, "a", false, 3, false, api.OK)
		wantJoin(t, p, conn, "a", true, 3, false, api.OK)
		wantCount(t, p, conn, 3)
	}
}

func TestP17_2_NoConnection(t *testing.T) {
	p := post.New()
	for _, conn := range noConns {
		for _, name := range []string{"", "a", long(api.MaxText), long(api.MaxText + 1)} {
			wantJoin(t, p, conn, name, false, 0, false, api.ErrPostConn)
			wantJoin(t, p, conn, name, true, 0, false, api.ErrPostConn)
		}
		wantCount(t, p, conn, 0)
	}
	wantNobody(t, p)
}

func TestP17_2_LongNames(t *testing.T) {
	p := post.New()
	for _, pattern := range []bool{false, true} {
		wantJoin(t, p, 7, long(api.MaxText+1), pattern, 0, false, api.ErrPostName)
		wantJoin(t, p, 7, long(1<<20), pattern, 0, false, api.ErrPostName)
	}
	wantNobody(t, p)
	wantJoin(t, p, 7, long(api.MaxText), false, 1, true, api.OK)
	wantJoin(t, p, 7, long(api.MaxText), true, 2, true, api.OK)
	wantJoin(t, p, 7, long(api.MaxText-1), true, 3, true, api.OK)
	wantJoin(t, p, 7, long(api.MaxText), true, 3, false, api.OK)
	wantNames(t, p, 7, false, long(api.MaxText))
	wantNames(t, p, 7, true, long(api.MaxText-1), long(api.MaxText))
}

func TestP17_2_TheEmptyName(t *testing.T) {
	p := post.New()
	wantJoin(t, p, 0, "", false, 1, true, api.OK)
	wantJoin(t, p, 0, "", true, 2, true, api.OK)
	wantJoin(t, p, 0, "", false, 2, false, api.OK)
	wantNames(t, p, 0, false, "")
	wantNames(t, p, 0, true, "")
	wantHeard(t, p, "", byName(0, ""), byPattern(0, ""))
	wantChannels(t, p, "", "")
	wantListeners(t, p, "", 1)
	wantPatterns(t, p, 1)
}

func TestP17_2_NamesThatAreAlike(t *testing.T) {
	p := post.New()
	names := []string{"a", "A", "a\x00", "\x00a", "a ", "\xff", "\xff\xff", "é", "*", `\*`}
	for i, name := range names {
		wantJoin(t, p, 4, name, false, i+1, true, api.OK)
	}
	for _, name := range names {
		wantJoin(t, p, 4, name, false, len(names), false, api.OK)
		wantListeners(t, p, name, 1)
	}
}

func TestP17_2_FullByChannelsAndPatternsTogether(t *testing.T) {
	for _, channels := range []int{0, 1, 32, 63, 64} {
		p := post.New()
		for i := range api.MaxSubs {
			wantJoin(t, p, 5, strconv.Itoa(i), i >= channels, i+1, true, api.OK)
		}
		for i := range api.MaxSubs {
			wantJoin(t, p, 5, strconv.Itoa(i), i >= channels, api.MaxSubs, false, api.OK)
			wantJoin(t, p, 5, strconv.Itoa(i), i < channels, 0, false, api.ErrPostMany)
		}
		wantJoin(t, p, 5, long(api.MaxText), true, 0, false, api.ErrPostMany)
		wantJoin(t, p, 5, long(api.MaxText+1), true, 0, false, api.ErrPostName)
		wantCount(t, p, 5, api.MaxSubs)
		wantJoin(t, p, 6, "64", false, 1, true, api.OK)
	}
}

func TestP17_2_RoomAgain(t *testing.T) {
	p := post.New()
	fill(t, p, 2, api.MaxSubs)
	wantLeave(t, p, 2, "6", false, api.MaxSubs, false, api.OK)
	wantJoin(t, p, 2, "new", false, 0, false, api.ErrPostMany)
	wantLeave(t, p, 2, "6", true, api.MaxSubs-1, true, api.OK)
	wantJoin(t, p, 2, "new", false, api.MaxSubs, true, api.OK)
	wantJoin(t, p, 2, "6", true, 0, false, api.ErrPostMany)
	p.Drop(2)
	fill(t, p, 2, api.MaxSubs)
}

func TestP17_2_AllConnectionsFull(t *testing.T) {
	p := post.New()
	for conn := range api.MaxConns {
		fill(t, p, conn, api.MaxSubs)
	}
	for conn := range api.MaxConns {
		wantCount(t, p, conn, api.MaxSubs)
		wantJoin(t, p, conn, "one more", true, 0, false, api.ErrPostMany)
	}
	wantPatterns(t, p, api.MaxSubs/2)
	wantListeners(t, p, "1", api.MaxConns)
}

func TestP17_3_Leave(t *testing.T) {
	p := post.New()
	join(t, p, 1, false, "a", "b")
	join(t, p, 1, true, "a", "c")
	join(t, p, 2, false, "a")
	wantLeave(t, p, 1, "c", false, 4, false, api.OK)
	wantLeave(t, p, 1, "b", true, 4, false, api.OK)
	wantLeave(t, p, 1, "A", false, 4, false, api.OK)
	wantLeave(t, p, 1, "a", false, 3, true, api.OK)
	wantLeave(t, p, 1, "a", false, 3, false, api.OK)
	wantNames(t, p, 1, false, "b")
	wantNames(t, p, 1, true, "a", "c")
	wantNames(t, p, 2, false, "a")
	wantHeard(t, p, "a", byPattern(1, "a"), byName(2, "a"))
	wantLeave(t, p, 1, "a", true, 2, true, api.OK)
	wantLeave(t, p, 1, "b", false, 1, true, api.OK)
	wantLeave(t, p, 1, "c", true, 0, true, api.OK)
	wantLeave(t, p, 1, "c", true, 0, false, api.OK)
	wantLeave(t, p, 0, "a", false, 0, false, api.OK)
	wantJoin(t, p, 1, "a", false, 1, true, api.OK)
	wantCount(t, p, 2, 1)
}

func TestP17_3_APatternIsNotMet(t *testing.T) {
	p := post.New()
	join(t, p, 1, false, "a", "b")
	join(t, p, 1, true, "?")
	wantLeave(t, p, 1, "*", true, 3, false, api.OK)
	wantLeave(t, p, 1, "?", false, 3, false, api.OK)
	wantNames(t, p, 1, false, "a", "b")
}

func TestP17_3_Errors(t *testing.T) {
	p := post.New()
	for conn := range api.MaxConns {
		join(t, p, conn, false, "a")
	}
	for _, conn := range noConns {
		for _, name := range []string{"", "a", long(api.MaxText + 1)} {
			wantLeave(t, p, conn, name, false, 0, false, api.ErrPostConn)
			wantLeave(t, p, conn, name, true, 0, false, api.ErrPostConn)
		}
	}
	wantLeave(t, p, 0, long(api.MaxText+1), false, 0, false, api.ErrPostName)
	wantLeave(t, p, 7, long(api.MaxText+1), true, 0, false, api.ErrPostName)
	wantLeave(t, p, 7, long(api.MaxText), true, 1, false, api.OK)
	wantListeners(t, p, "a", api.MaxConns)
	join(t, p, 7, true, long(api.MaxText))
	wantLeave(t, p, 7, long(api.MaxText), true, 1, true, api.OK)
}

func TestP17_4_Drop(t *testing.T) {
	p := post.New()
	for _, conn := range []int{0, 3, 7} {
		join(t, p, conn, false, "a", "b", "")
		join(t, p, conn, true, "a", "*", "")
	}
	p.Drop(3)
	wantCount(t, p, 3, 0)
	wantNames(t, p, 3, false)
	wantNames(t, p, 3, true)
	wantHeard(t, p, "a", byName(0, "a"), byPattern(0, "*"), byPattern(0, "a"), byName(7, "a"), byPattern(7, "*"), byPattern(7, "a"))
	wantListeners(t, p, "b", 2)
	wantPatterns(t, p, 3)
	p.Drop(3)
	p.Drop(5)
	wantCount(t, p, 0, 6)
	wantCount(t, p, 7, 6)
	wantJoin(t, p, 3, "a", false, 1, true, api.OK)
	p.Drop(3)
	p.Drop(0)
	wantCount(t, p, 7, 6)
	p.Drop(7)
	wantNobody(t, p)
	wantJoin(t, p, 7, "a", false, 1, true, api.OK)
	wantHeard(t, p, "a", byName(7, "a"))
}

func TestP17_4_DropOfNoConnection(t *testing.T) {
	p := post.New()
	for _, conn := range noConns {
		p.Drop(conn)
	}
	wantNobody(t, p)
	for conn := range api.MaxConns {
		join(t, p, conn, false, "a")
		join(t, p, conn, true, "a")
	}
	for _, conn := range noConns {
		p.Drop(conn)
	}
	for conn := range api.MaxConns {
		wantCount(t, p, conn, 2)
	}
}
