package strip

import "brook/api"

// crashes counts a change, and tells whether it is the one that is not done: then the strip is down. As counting begins at 1, a crash below that never comes.
func (s *Strip) crashes() bool {
	s.down = s.changes.Add(1) == int64(s.crash)
	return s.down
}

// Tear says which change, counted from now on, is the one that is not done.
func (s *Strip) Tear(n int) {
	if s == nil {
		return
	}
	s.changes.Store(0)
	s.crash = n
}

// Fall does some of the changes that are loose, and a part of the next one; others are as if they had not been made. Then it is up.
func (s *Strip) Fall(p api.Plan) {
	if s == nil {
		return
	}
	keep := max(p.Keep, 0) % (len(s.loose) + 1)
	torn := max(p.Torn, 0) % (len(block{}) + 1)
	// The last one first: each finds its block as it left it.
	for i := len(s.loose) - 1; i > keep; i-- {
		s.undo(s.loose[i], 0)
	}
	if keep < len(s.loose) {
		s.undo(s.loose[keep], torn)
	}
	s.loose, s.down = nil, false
	s.Tear(p.Crash)
}

// undo takes a change back, but its first bytes, as many as stay says.
func (s *Strip) undo(c change, stay int) { copy(s.blocks[c.place][stay:], c.was[stay:]) }
