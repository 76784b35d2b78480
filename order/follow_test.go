package order_test

import (
	"fmt"
	"slices"
	"testing"

	"shelf/api"
	"shelf/order"
)

// nodesOf are the names in edges, each once, in an order of no meaning.
func nodesOf(edges []api.Edge) []string {
	var names []string
	for _, e := range edges {
		names = append(names, e.From, e.To)
	}
	slices.Sort(names)
	return slices.Compact(names)
}

// takenAway are the edges that loops say to have been taken away: from the last one of each to its first.
func takenAway(circles [][]string) map[api.Edge]bool {
	cut := map[api.Edge]bool{}
	for _, loop := range circles {
		cut[api.Edge{From: loop[len(loop)-1], To: loop[0]}] = true
	}
	return cut
}

// hasCircle: can one go along edges from some node back to it? Every way of one edge is made longer by each node in its turn.
func hasCircle(edges []api.Edge) bool {
	names := nodesOf(edges)
	leads := map[api.Edge]bool{}
	for _, e := range edges {
		if e.From != e.To {
			leads[e] = true
		}
	}
	for _, by := range names {
		for _, from := range names {
			for _, to := range names {
				if leads[api.Edge{From: from, To: by}] && leads[api.Edge{From: by, To: to}] {
					leads[api.Edge{From: from, To: to}] = true
				}
			}
		}
	}
	return slices.ContainsFunc(names, func(name string) bool { return leads[api.Edge{From: name, To: name}] })
}

// 21.8: each node is there one time, and each edge that was not taken away goes forward.
func TestEveryPairGoesForward(t *testing.T) {
	forward := 0
	for seed := range 25000 {
		edges := newDice(seed).edges()
		names, circles := order.Sort(edges)
		what := fmt.Sprintf("21.8: seed %d: Sort(%q) = %q, %q", seed, edges, names, circles)
		if once := slices.Sorted(slices.Values(names)); !slices.Equal(once, nodesOf(edges)) {
			t.Fatalf("%s: the nodes are %q", what, nodesOf(edges))
		}
		cut := takenAway(circles)
		for _, e := range edges {
			if e.From == e.To || cut[e] {
				continue
			}
			if slices.Index(names, e.From) > slices.Index(names, e.To) {
				t.Fatalf("%s: %q goes back", what, e)
			}
			forward++
		}
	}
	if forward < 100000 {
		t.Errorf("21.8: only %d edges went forward", forward)
	}
}

// 21.9: each loop is a circle of two nodes or more, along edges that no loop ahead of it took away; there is one just where one can go round.
func TestLoopIsOne(t *testing.T) {
	met := map[bool]int{}
	for seed := range 25000 {
		edges := newDice(seed).edges()
		_, circles := order.Sort(edges)
		what := fmt.Sprintf("21.9: seed %d: Sort(%q) tells %q", seed, edges, circles)
		for k, loop := range circles {
			gone := takenAway(circles[:k])
			if len(loop) < 2 || len(nodesOf(pairsOf(loop))) != len(loop) {
				t.Fatalf("%s: %q", what, loop)
			}
			for _, e := range pairsOf(loop) {
				if !slices.Contains(edges, e) || gone[e] {
					t.Fatalf("%s: there is no %q", what, e)
				}
			}
		}
		if round := hasCircle(edges); round != (len(circles) > 0) {
			t.Fatalf("%s: can one go round? %v", what, round)
		}
		met[len(circles) > 0]++
	}
	if met[true] < 5000 || met[false] < 5000 {
		t.Errorf("21.9: met %v", met)
	}
}

// pairsOf are the edges of a loop: from each to the next one, from the last to the first.
func pairsOf(loop []string) []api.Edge {
	var edges []api.Edge
	for i, name := range loop {
		edges = append(edges, api.Edge{From: name, To: loop[(i+1)%len(loop)]})
	}
	return edges
}

// 21.8, 21.9: edges without a circle are told no loop, however the nodes are called and whatever comes first.
func TestNoLoopWhereNoneIs(t *testing.T) {
	for seed := range 10000 {
		d := newDice(seed)
		rank := d.Perm(9)
		edges := some(d, 40, func() api.Edge {
			a, b := d.Intn(9), d.Intn(9)
			if rank[a] > rank[b] {
				a, b = b, a
			}
			return api.Edge{From: fmt.Sprint(a), To: fmt.Sprint(b)}
		})
		if _, circles := order.Sort(edges); len(circles) > 0 {
			t.Fatalf("21.9: seed %d: Sort(%q) tells %q", seed, edges, circles)
		}
	}
}
