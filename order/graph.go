package order

import (
	"container/heap"

	"shelf/api"
)

// node is a name with the names that edges lead it to and from.
type node struct {
	number int      // how many nodes appear ahead of it
	from   []string // where the edges into it come from, in order; the first of them is left, and comes from a node that is left
	to     []string // where the edges out of it led at the beginning
}

// graph is what is left of nodes and edges.
type graph struct {
	names []string         // all nodes, in the order in which they appear first, those that are gone too
	nodes map[string]*node // those that are left
	free  numbers          // those of them into which no edge leads
	gone  int              // of the first so many names it is known that none is left
}

// graphOf has all that edges tell. An edge that is given twice is one: it goes when the first of the two goes.
func graphOf(edges []api.Edge) *graph {
	g := &graph{nodes: map[string]*node{}}
	for _, e := range distinctOf(edges) {
		from := g.nodeOf(e.From)
		to := g.nodeOf(e.To)
		if e.From != e.To {
			from.to = append(from.to, e.To)
			to.from = append(to.from, e.From)
		}
	}
	for number, name := range g.names {
		if len(g.nodes[name].from) == 0 {
			heap.Push(&g.free, number)
		}
	}
	return g
}

// nodeOf is the node of a name, a new one if there is none.
func (g *graph) nodeOf(name string) *node {
	n, there := g.nodes[name]
	if !there {
		n = &node{number: len(g.names)}
		g.nodes[name] = n
		g.names = append(g.names, name)
	}
	return n
}

func (g *graph) isLeft(name string) bool {
	_, left := g.nodes[name]
	return left
}

// first is the first node that is left; there must be one.
func (g *graph) first() string {
	for !g.isLeft(g.names[g.gone]) {
		g.gone++
	}
	return g.names[g.gone]
}

// takeFree takes the first node out into which no edge leads, and with it the edges out of it.
func (g *graph) takeFree() string {
	name := g.names[heap.Pop(&g.free).(int)]
	gone := g.nodes[name]
	delete(g.nodes, name)
	for _, to := range gone.to {
		if n, left := g.nodes[to]; left && len(n.from) > 0 && n.from[0] == name {
			g.dropFirst(n)
		}
	}
	return name
}

// dropFirst takes the first edge into a node away, and those behind it that come from nodes that are gone. Other edges from gone nodes may stay further behind: they are dropped when their turn comes, so each edge is looked at once.
func (g *graph) dropFirst(n *node) {
	n.from = n.from[1:]
	for len(n.from) > 0 && !g.isLeft(n.from[0]) {
		n.from = n.from[1:]
	}
	if len(n.from) == 0 {
		heap.Push(&g.free, n.number)
	}
}
