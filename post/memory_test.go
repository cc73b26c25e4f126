package post_test

import (
	"slices"
	"testing"
	"unsafe"

	"larder/api"
	"larder/post"
)

// lent is a text whose bytes can be written over behind a call, as no text of the program's own can be.
func lent(text string) (name string, bytes []byte) {
	bytes = []byte(text)
	return unsafe.String(unsafe.SliceData(bytes), len(bytes)), bytes
}

func TestR2_NamesAreNotKept(t *testing.T) {
	p := post.New()
	channel, first := lent("channel")
	pattern, second := lent("chan*")
	join(t, p, 1, false, channel)
	join(t, p, 1, true, pattern)
	clear(first)
	clear(second)
	wantNames(t, p, 1, false, "channel")
	wantNames(t, p, 1, true, "chan*")
	wantLeave(t, p, 1, "channel", false, 1, true, api.OK)
	wantLeave(t, p, 1, "chan*", true, 0, true, api.OK)
	wantNobody(t, p)
}

func TestR2_WhatIsHeardIsNew(t *testing.T) {
	p := post.New()
	join(t, p, 1, false, "channel")
	join(t, p, 1, true, "chan*")
	channel, bytes := lent("channel")
	hits := p.Heard(channel)
	clear(bytes)
	want := []api.Hit{byName(1, "channel"), byPattern(1, "chan*")}
	if !slices.Equal(hits, want) {
		t.Errorf("%v", hits)
	}
}

// memory is the bytes under a text.
func memory(text string) []byte {
	return unsafe.Slice(unsafe.StringData(text), len(text))
}

func TestR2_TextsAreNew(t *testing.T) {
	p := post.New()
	for conn := range api.MaxConns {
		join(t, p, conn, false, "channel", "other")
		join(t, p, conn, true, "chan*", "*")
	}
	hits := p.Heard("channel")
	again := slices.Clone(hits[1:])
	var texts []string
	for _, hit := range hits[2:] {
		texts = append(texts, hit.Name)
	}
	texts = append(texts, p.Names(1, false)...)
	texts = append(texts, p.Names(1, true)...)
	texts = append(texts, p.Channels("*")...)
	for _, text := range texts {
		clear(memory(text))
	}
	if hits[0] != byName(0, "channel") || again[0] != byPattern(0, "*") {
		t.Errorf("what is heard shares memory: %v", hits[:2])
	}
	wantNames(t, p, 1, false, "channel", "other")
	wantNames(t, p, 1, true, "*", "chan*")
	wantChannels(t, p, "*", "channel", "other")
}

// spoil writes over a list and its spare room.
func spoil[T any](list []T, with T) {
	list = list[:cap(list)]
	for i := range list {
		list[i] = with
	}
}

func TestR2_ListsAreNew(t *testing.T) {
	p := post.New()
	for conn := range api.MaxConns {
		join(t, p, conn, false, "a", "b", "c")
		join(t, p, conn, true, "*", "?", "x")
	}
	hits, names, patterns, channels := p.Heard("a"), p.Names(3, false), p.Names(3, true), p.Channels("*")
	spoil(p.Heard("a"), byName(7, "spoilt"))
	spoil(p.Names(3, false), "spoilt")
	spoil(p.Names(3, true), "spoilt")
	spoil(p.Channels("*"), "spoilt")
	spoil(p.Channels("a"), "spoilt")
	wantHeard(t, p, "a", hits...)
	wantNames(t, p, 3, false, names...)
	wantNames(t, p, 3, true, patterns...)
	wantChannels(t, p, "*", channels...)
	if len(hits) != 3*api.MaxConns || hits[3] != byName(1, "a") || !slices.Equal(names, []string{"a", "b", "c"}) || !slices.Equal(patterns, []string{"*", "?", "x"}) || !slices.Equal(channels, names) {
		t.Errorf("%v, %q, %q, %q", hits, names, patterns, channels)
	}
}

func TestR2_AnswersStayAsTheyWere(t *testing.T) {
	p := post.New()
	join(t, p, 1, false, "a", "b")
	join(t, p, 1, true, "*")
	hits, names, channels := p.Heard("a"), p.Names(1, false), p.Channels("*")
	p.Drop(1)
	join(t, p, 2, false, "c")
	if !slices.Equal(hits, []api.Hit{byName(1, "a"), byPattern(1, "*")}) || !slices.Equal(names, []string{"a", "b"}) || !slices.Equal(channels, names) {
		t.Errorf("%v, %q, %q", hits, names, channels)
	}
}
