package post_test

import (
	"testing"

	"larder/api"
	"larder/post"
)

// examplePost is the post behind the chapter's first example.
func examplePost(t *testing.T) *post.Post {
	t.Helper()
	p := post.New()
	wantJoin(t, p, 0, "news", false, 1, true, api.OK)
	wantJoin(t, p, 0, "news", false, 1, false, api.OK)
	wantJoin(t, p, 0, "news", true, 2, true, api.OK)
	wantJoin(t, p, 0, "n*", true, 3, true, api.OK)
	wantJoin(t, p, 3, "n*", true, 1, true, api.OK)
	return p
}

func TestP17_2_Example(t *testing.T) {
	p := examplePost(t)
	wantJoin(t, p, 8, "x", false, 0, false, api.ErrPostConn)
	wantJoin(t, p, -1, "x", false, 0, false, api.ErrPostConn)
}

func TestP17_5_Example(t *testing.T) {
	p := examplePost(t)
	wantHeard(t, p, "news", byName(0, "news"), byPattern(0, "n*"), byPattern(0, "news"), byPattern(3, "n*"))
	wantHeard(t, p, "nil", byPattern(0, "n*"), byPattern(3, "n*"))
	wantHeard(t, p, "x")
}

func TestP17_6_Example(t *testing.T) {
	p := examplePost(t)
	wantNames(t, p, 0, true, "n*", "news")
	wantNames(t, p, 0, false, "news")
	wantCount(t, p, 0, 3)
	wantNames(t, p, 9, true)
	wantCount(t, p, -1, 0)
}

func TestP17_7_Example(t *testing.T) {
	p := examplePost(t)
	wantChannels(t, p, "*", "news")
	wantChannels(t, p, "n?ws", "news")
	wantChannels(t, p, "x*")
	wantListeners(t, p, "news", 1)
	wantListeners(t, p, "n*", 0)
	wantPatterns(t, p, 2)
}

func TestP17_3_Example(t *testing.T) {
	p := examplePost(t)
	wantLeave(t, p, 0, "n*", false, 3, false, api.OK)
	wantLeave(t, p, 0, "n*", true, 2, true, api.OK)
	wantPatterns(t, p, 2)
	p.Drop(3)
	wantPatterns(t, p, 1)
	p.Drop(3)
	p.Drop(99)
	wantPatterns(t, p, 1)
	wantCount(t, p, 0, 2)
}

func TestP17_2_ExampleOfAFullConnection(t *testing.T) {
	p := post.New()
	fill(t, p, 1, 64)
	wantJoin(t, p, 1, "a 65th", false, 0, false, api.ErrPostMany)
	wantJoin(t, p, 1, "63", false, 64, false, api.OK)
	wantJoin(t, p, 8, long(4097), false, 0, false, api.ErrPostConn)
	wantJoin(t, p, 1, long(4097), false, 0, false, api.ErrPostName)
	wantJoin(t, p, 2, long(4097), true, 0, false, api.ErrPostName)
}
