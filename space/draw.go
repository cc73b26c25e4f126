package space

import (
	"math/bits"

	"larder/api"
)

// Draw adds draws to those that are left.
func (s *Space) Draw(b []byte) {
	room := api.MaxDraws - len(s.draws)
	s.draws = append(s.draws, b[:min(len(b), room)]...)
}

// Level takes a draw and tells the level that it means.
func (s *Space) Level() int {
	if len(s.draws) == 0 {
		return 1
	}
	first := s.draws[0]
	s.draws = s.draws[1:]
	return min(1+bits.TrailingZeros8(^first), api.MaxLevel)
}
