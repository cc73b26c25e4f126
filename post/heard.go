package post

import (
	"slices"
	"strings"

	"larder/api"
	"larder/match"
)

// Heard tells who hears a message to a channel, in order.
func (p *Post) Heard(channel string) []api.Hit {
	patterns := p.metBy(channel)
	var hits []api.Hit
	for conn := range api.MaxConns {
		if p.listens(conn, channel, false) {
			hits = append(hits, api.Hit{Conn: conn, Name: strings.Clone(channel)})
		}
		for _, pattern := range patterns {
			if p.listens(conn, pattern, true) {
				hits = append(hits, api.Hit{Conn: conn, Pattern: true, Name: strings.Clone(pattern)})
			}
		}
	}
	return hits
}

// Channels tells the channels that anybody listens to by name and that meet a pattern, sorted.
func (p *Post) Channels(pattern string) []string {
	wanted := []byte(pattern)
	return slices.DeleteFunc(p.unlike(false), func(channel string) bool {
		return !match.Glob(wanted, []byte(channel))
	})
}

// Listeners tells how many connections listen to a channel by name.
func (p *Post) Listeners(channel string) int {
	count := 0
	for n := range p.names {
		if n == (joined{conn: n.conn, text: channel}) {
			count++
		}
	}
	return count
}

// Patterns tells how many different patterns anybody listens to.
func (p *Post) Patterns() int {
	return len(p.unlike(true))
}

// metBy tells the patterns that a channel meets, sorted. Each is held against the channel once, however many connections have it: with long texts that is what takes the time.
func (p *Post) metBy(channel string) []string {
	text := []byte(channel)
	return slices.DeleteFunc(p.unlike(true), func(pattern string) bool {
		return !match.Glob([]byte(pattern), text)
	})
}

// unlike tells the channels, or the patterns, to which anybody listens, sorted, each once.
func (p *Post) unlike(pattern bool) []string {
	return p.texts(func(n joined) bool { return n.pattern == pattern })
}
