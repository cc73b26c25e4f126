package post_test

import (
	"cmp"
	"math/rand"
	"slices"
	"testing"

	"larder/api"
	"larder/post"
)

// model is a plain second Post: a list of hits in the order in which they were joined.
type model struct {
	names []api.Hit
}

func (m *model) find(conn int, name string, pattern bool) int {
	return slices.Index(m.names, api.Hit{Conn: conn, Pattern: pattern, Name: name})
}

func (m *model) count(conn int) int {
	count := 0
	for _, n := range m.names {
		if n.Conn == conn {
			count++
		}
	}
	return count
}

func (m *model) wrong(conn int, name string) api.Errno {
	if conn < 0 || conn > 7 {
		return 170
	}
	if len(name) > 4096 {
		return 171
	}
	return 0
}

func (m *model) join(conn int, name string, pattern bool) (int, bool, api.Errno) {
	if e := m.wrong(conn, name); e != 0 {
		return 0, false, e
	}
	if m.find(conn, name, pattern) >= 0 {
		return m.count(conn), false, 0
	}
	if m.count(conn) == 64 {
		return 0, false, 172
	}
	m.names = append(m.names, api.Hit{Conn: conn, Pattern: pattern, Name: name})
	return m.count(conn), true, 0
}

func (m *model) leave(conn int, name string, pattern bool) (int, bool, api.Errno) {
	if e := m.wrong(conn, name); e != 0 {
		return 0, false, e
	}
	at := m.find(conn, name, pattern)
	if at >= 0 {
		m.names = slices.Delete(m.names, at, at+1)
	}
	return m.count(conn), at >= 0, 0
}

func (m *model) drop(conn int) {
	m.names = slices.DeleteFunc(m.names, func(n api.Hit) bool { return n.Conn == conn })
}

// fits is a plain matcher of stars, question marks and other bytes: which beginnings of the text the pattern's beginning fits, byte by byte of the pattern.
func fits(pattern, text string) bool {
	ends := make([]bool, len(text)+1)
	ends[0] = true
	for _, p := range []byte(pattern) {
		next := make([]bool, len(text)+1)
		next[0] = p == '*' && ends[0]
		for i := range len(text) {
			if p == '*' {
				next[i+1] = next[i] || ends[i+1]
			} else {
				next[i+1] = ends[i] && (p == '?' || p == text[i])
			}
		}
		ends = next
	}
	return ends[len(text)]
}

func (m *model) heard(channel string) []api.Hit {
	var hits []api.Hit
	for _, n := range m.names {
		if n.Pattern && fits(n.Name, channel) || !n.Pattern && n.Name == channel {
			hits = append(hits, n)
		}
	}
	slices.SortFunc(hits, func(a, b api.Hit) int {
		if c := cmp.Compare(a.Conn, b.Conn); c != 0 {
			return c
		}
		if a.Pattern != b.Pattern {
			if b.Pattern {
				return -1
			}
			return 1
		}
		return cmp.Compare(a.Name, b.Name)
	})
	return hits
}

// texts tells the names of a kind that a connection listens to (of all connections: -1), sorted, each once.
func (m *model) texts(conn int, pattern bool) []string {
	seen := map[string]bool{}
	var texts []string
	for _, n := range m.names {
		if (conn < 0 || n.Conn == conn) && n.Pattern == pattern && !seen[n.Name] {
			seen[n.Name] = true
			texts = append(texts, n.Name)
		}
	}
	slices.Sort(texts)
	return texts
}

func (m *model) channels(pattern string) []string {
	return slices.DeleteFunc(m.texts(-1, false), func(c string) bool { return !fits(pattern, c) })
}

func (m *model) listeners(channel string) int {
	count := 0
	for conn := range 8 {
		if m.find(conn, channel, false) >= 0 {
			count++
		}
	}
	return count
}

// wantAsModel asks all that can be asked of a Post, and of some texts.
func wantAsModel(t *testing.T, p *post.Post, m *model, texts ...string) {
	t.Helper()
	for conn := -1; conn <= 8; conn++ {
		wantCount(t, p, conn, m.count(conn))
		if conn >= 0 {
			wantNames(t, p, conn, false, m.texts(conn, false)...)
			wantNames(t, p, conn, true, m.texts(conn, true)...)
		}
	}
	for _, text := range texts {
		wantHeard(t, p, text, m.heard(text)...)
		wantChannels(t, p, text, m.channels(text)...)
		wantListeners(t, p, text, m.listeners(text))
	}
	wantPatterns(t, p, len(m.texts(-1, true)))
}

// drawText draws a short text of bytes that patterns are made of, seldom one that is too long.
func drawText(r *rand.Rand, bytes string) string {
	if r.Intn(200) == 0 {
		return long(4096 + r.Intn(2))
	}
	text := make([]byte, r.Intn(5))
	for i := range text {
		text[i] = bytes[r.Intn(len(bytes))]
	}
	return string(text)
}

// drawConn draws a connection; seldom a number that is none.
func drawConn(r *rand.Rand, conns int) int {
	if r.Intn(50) == 0 {
		return noConns[r.Intn(len(noConns))]
	}
	return r.Intn(conns)
}

// playStep does one drawn thing to a Post and to its model.
func playStep(t *testing.T, r *rand.Rand, p *post.Post, m *model, conns int, bytes string) {
	t.Helper()
	conn, name, pattern := drawConn(r, conns), drawText(r, bytes), r.Intn(2) == 0
	switch k := r.Intn(1000); {
	case k < 800:
		count, joined, e := m.join(conn, name, pattern)
		wantJoin(t, p, conn, name, pattern, count, joined, e)
	case k < 996:
		if k < 900 && len(m.names) > 0 {
			n := m.names[r.Intn(len(m.names))]
			conn, name, pattern = n.Conn, n.Name, n.Pattern
		}
		count, left, e := m.leave(conn, name, pattern)
		wantLeave(t, p, conn, name, pattern, count, left, e)
	default:
		m.drop(conn)
		p.Drop(conn)
	}
}

func TestP17_8_DrawnScripts(t *testing.T) {
	full := 0
	for seed := range int64(100) {
		r := rand.New(rand.NewSource(seed))
		conns := 1 + r.Intn(8)
		bytes := []string{"ab*", "abc*?", "a?*\x00\xff"}[r.Intn(3)]
		p, m := post.New(), &model{}
		other, of := post.New(), &model{}
		for range 400 {
			playStep(t, r, p, m, conns, bytes)
			// What is done to another Post is not seen.
			playStep(t, r, other, of, conns, bytes)
			if r.Intn(10) == 0 {
				wantAsModel(t, p, m, drawText(r, bytes), drawText(r, "ab"), drawText(r, "a?"))
			}
			if m.count(0) == 64 {
				full++
			}
			if t.Failed() {
				t.Fatalf("seed %d", seed)
			}
		}
		wantAsModel(t, other, of, "a", "*", "")
	}
	if full < 500 {
		t.Errorf("a drawn connection was full %d times only", full)
	}
}

func TestP17_8_TheWayThereDoesNotCount(t *testing.T) {
	r := rand.New(rand.NewSource(17))
	for range 50 {
		p, m := post.New(), &model{}
		for range 300 {
			playStep(t, r, p, m, 8, "ab*?")
		}
		// The same names, joined in another order with others that left again.
		q := post.New()
		for i, at := range r.Perm(len(m.names)) {
			n := m.names[at]
			if n.Conn != i%8 {
				q.Join(i%8, "left again", i%2 == 0)
			}
			q.Join(n.Conn, n.Name, n.Pattern)
			q.Leave(i%8, "left again", i%2 == 0)
		}
		wantAsModel(t, q, m, "a", "ab", "*", "?", "")
		wantAsModel(t, p, m, "a", "ab", "*", "?", "")
	}
}
