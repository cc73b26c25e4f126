package server

import (
	"sync"

	"larder/api"
	"larder/wire"
)

// What a chunk has brought is of one of these kinds.
const (
	commands = iota
	breakage
	hangUp
)

// finding is something that a chunk has brought; whole belongs to the kind commands.
type finding struct {
	kind  int
	whole [][][]byte
}

// parse tells by its number what each chunk has brought. The connections' streams have nothing in common, so all are read at the same time.
func (s *Server) parse(chunks []api.Chunk) map[int][]finding {
	found := map[int][]finding{}
	var guard sync.Mutex
	var readers sync.WaitGroup
	for _, numbers := range byConnection(chunks) {
		if len(numbers) == 0 {
			continue
		}
		readers.Add(1)
		go func() {
			defer readers.Done()
			for _, i := range numbers {
				brought := s.read(chunks[i])
				guard.Lock()
				found[i] = brought
				guard.Unlock()
			}
		}()
	}
	readers.Wait()
	return found
}

// byConnection tells the numbers of each connection's chunks, in order.
func byConnection(chunks []api.Chunk) [api.MaxConns][]int {
	var numbers [api.MaxConns][]int
	for i, c := range chunks {
		if c.Conn >= 0 && c.Conn < api.MaxConns {
			numbers[c.Conn] = append(numbers[c.Conn], i)
		}
	}
	return numbers
}

// read tells what a chunk brings, in order. It touches nothing but its connection's stream.
func (s *Server) read(c api.Chunk) []finding {
	var brought []finding
	// A broken stream tells its break at every Feed: it has brought it only once.
	if stream := s.streams[c.Conn]; stream.Broken() == api.OK {
		whole, e := stream.Feed(c.Data)
		if len(whole) > 0 {
			brought = append(brought, finding{kind: commands, whole: whole})
		}
		if e != api.OK {
			brought = append(brought, finding{kind: breakage})
		}
	}
	if c.Hang {
		s.streams[c.Conn] = wire.New()
		brought = append(brought, finding{kind: hangUp})
	}
	return brought
}
