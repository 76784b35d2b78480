package order

import "shelf/api"

// sorting is a sort on its way.
type sorting struct {
	*graph
	back  trail // from the first node that is left, each time by the first edge; kept from loop to loop, as a new one would begin with what is still there of it
	out   []string
	loops [][]string
}

func begin(edges []api.Edge) *sorting {
	return &sorting{graph: graphOf(edges), back: trail{at: map[string]int{}}}
}

// putAllOut searches for the next node to be put out until none is left. Where each node has an edge into it, the way back ends in a loop; the search begins again when that is cut.
func (s *sorting) putAllOut() {
search:
	for len(s.nodes) > 0 {
		if len(s.free) > 0 {
			s.out = append(s.out, s.takeFree())
			continue search
		}
		s.turnBack()
		for {
			from := s.nodes[s.back.last()].from[0]
			if at, met := s.back.at[from]; met {
				s.cut(at)
				continue search
			}
			s.back.add(from)
		}
	}
}

// turnBack leaves of the way back what is still there. A node of it goes only behind the next one, whose edge leads into it: so what is gone is the way's end.
func (s *sorting) turnBack() {
	n := len(s.back.names)
	for n > 0 && !s.isLeft(s.back.names[n-1]) {
		n--
	}
	s.back.shorten(n)
	if n == 0 {
		s.back.add(s.first())
	}
}

// cut tells the loop that begins at a place of the way back, and takes the edge from its last node to its first away.
func (s *sorting) cut(at int) {
	s.loops = append(s.loops, s.back.loopFrom(at))
	s.dropFirst(s.nodes[s.back.names[at]])
	s.back.shorten(at + 1)
}
