package order_test

import (
	"fmt"
	"slices"
	"strconv"
	"testing"

	"shelf/api"
	"shelf/order"
)

// R1: calls with much to do end, and soon. Many is so much that what costs the square of it would not.
const many = 60000

// numbered are the numbers from one to another, as names; down, if the other one is less.
func numbered(from, to int) []string {
	var list []string
	step := 1
	if to < from {
		step = -1
	}
	for n := from; n != to+step; n += step {
		list = append(list, strconv.Itoa(n))
	}
	return list
}

func edge(from, to int) api.Edge {
	return api.Edge{From: strconv.Itoa(from), To: strconv.Itoa(to)}
}

// selves are the edges from the nodes 0 to n to themselves.
func selves(n int) []api.Edge {
	var edges []api.Edge
	for i := range n + 1 {
		edges = append(edges, edge(i, i))
	}
	return edges
}

// wantLarge is wantSort without telling what is large.
func wantLarge(t *testing.T, what string, edges []api.Edge, names []string, circles [][]string) {
	t.Helper()
	got, told := order.Sort(edges)
	if !slices.Equal(got, names) {
		t.Errorf("%s: %d names in another order", what, len(got))
	}
	if !sameLoops(told, circles) {
		t.Errorf("%s: %d loops, want %d, or other ones", what, len(told), len(circles))
	}
}

// A chain from the last node to the first: each node that goes out lets the one ahead of it go.
func TestLongChain(t *testing.T) {
	edges := selves(many)
	for i := range many {
		edges = append(edges, edge(i+1, i))
	}
	wantLarge(t, "a chain", edges, numbered(many, 0), nil)
}

// Nodes of the front half are let go by those of the back half, one by one, each from the front anew.
func TestFrontAndBack(t *testing.T) {
	edges := selves(2*many - 1)
	var want []string
	for i := range many {
		edges = append(edges, edge(many+i, i))
		if i > 0 {
			edges = append(edges, edge(i-1, many+i))
		}
		want = append(want, strconv.Itoa(many+i), strconv.Itoa(i))
	}
	wantLarge(t, "front and back", edges, want, nil)
}

// Many edges lead into one node and out of one.
func TestManyEdgesOfOneNode(t *testing.T) {
	edges := []api.Edge{edge(0, 0)}
	for i := range many {
		edges = append(edges, edge(i+1, 0))
	}
	wantLarge(t, "into one", edges, append(numbered(1, many), "0"), nil)
	for i := range many {
		edges = append(edges, edge(many+1, i+1))
	}
	wantLarge(t, "out of one", edges, append([]string{strconv.Itoa(many + 1)}, append(numbered(1, many), "0")...), nil)
}

// One long loop.
func TestLongLoop(t *testing.T) {
	var edges []api.Edge
	for i := range many {
		edges = append(edges, edge(i, (i+1)%many))
	}
	wantLarge(t, "a long loop", edges, numbered(0, many-1), [][]string{numbered(0, many-1)})
}

// Many loops at the end of a long way back from the first node: each one a node with the same other one.
func TestLoopsFarBack(t *testing.T) {
	edges := selves(many)
	for i := range many {
		edges = append(edges, edge(i+1, i))
	}
	var circles [][]string
	hub := strconv.Itoa(many)
	last := numbered(many+1, 2*many)
	for i := range many {
		edges = append(edges, edge(many+1+i, many), edge(many, many+1+i))
		circles = append(circles, []string{hub, last[i]})
	}
	wantLarge(t, "loops far back", edges, append(numbered(many, 0), last...), circles)
}

// Edges from each of some nodes to each: a loop of each two, told from the first node on.
func TestAllToAll(t *testing.T) {
	const n = 300
	var edges []api.Edge
	for i := range n {
		for k := range n {
			edges = append(edges, edge(i, k))
		}
	}
	var circles [][]string
	for i := range n {
		for k := i + 1; k < n; k++ {
			circles = append(circles, []string{strconv.Itoa(i), strconv.Itoa(k)})
		}
	}
	wantLarge(t, "all to all", edges, numbered(0, n-1), circles)
}

// Edges of nodes that name one thing again and again, and of a chain.
func TestEdgesOfMuch(t *testing.T) {
	var again []string
	for range many {
		again = append(again, "f")
	}
	list := []api.Node{{Name: "a", Defines: again, Needs: again}, {Name: "b", Defines: again, Needs: again}}
	wantEdges(t, "again and again", list, pairs("a a, a b, b b, b a"))
	var chain []api.Node
	var want []api.Edge
	for i := range many {
		chain = append(chain, node(strconv.Itoa(i), fmt.Sprint("n", i), fmt.Sprint("n", i+1)))
		want = append(want, edge(i, i))
		if i+1 < many {
			want = append(want, edge(i, i+1))
		}
	}
	if got := order.Edges(chain); !slices.Equal(got, want) {
		t.Errorf("a chain: %d edges, want %d, or other ones", len(got), len(want))
	}
	var users []api.Node
	for i := range many {
		users = append(users, api.Node{Name: "user" + strconv.Itoa(i%5), Needs: again[:3]}, api.Node{Name: "definer", Defines: again[:1]})
	}
	if got := order.Edges(users[:2000]); len(got) != 5+1+5 {
		t.Errorf("many of one name: %d edges", len(got))
	}
}
