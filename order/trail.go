package order

import "slices"

// trail is a way back against the edges, on which no node stands twice, and a map from the names on it to where they stand.
type trail struct {
	names []string
	at    map[string]int
}

// add makes the way longer by a node.
func (t *trail) add(name string) {
	t.at[name] = len(t.names)
	t.names = append(t.names, name)
}

func (t *trail) last() string { return t.names[len(t.names)-1] }

// shorten leaves the first n nodes of the way.
func (t *trail) shorten(n int) {
	for _, name := range t.names[n:] {
		delete(t.at, name)
	}
	t.names = t.names[:n]
}

// loopFrom is the circle that an edge from the node at a place to the last one closes, along the edges.
func (t *trail) loopFrom(at int) []string {
	loop := slices.Clone(t.names[at:])
	slices.Reverse(loop[1:])
	return loop
}
