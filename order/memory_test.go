package order_test

import (
	"fmt"
	"reflect"
	"slices"
	"testing"

	"shelf/api"
	"shelf/order"
)

// roomy is a list with three more elements behind it in its spare room.
func roomy[T any](list []T, x T) []T {
	return append(slices.Clone(list), x, x, x)[:len(list)]
}

// rest is a list with its spare room.
func rest[T any](list []T) []T { return slices.Clone(list[:cap(list)]) }

// fill overwrites a list and its spare room.
func fill[T any](list []T, x T) {
	for i := range list[:cap(list)] {
		list[:cap(list)][i] = x
	}
}

// roomyNodes are nodes whose lists have spare room, the lists in them too.
func roomyNodes(list []api.Node) []api.Node {
	var out []api.Node
	for _, n := range list {
		out = append(out, api.Node{Name: n.Name, Defines: roomy(n.Defines, "spare"), Needs: roomy(n.Needs, "spare")})
	}
	return roomy(out, node("spare", "spare", "spare"))
}

// restNodes are nodes with their lists' spare room.
func restNodes(list []api.Node) []api.Node {
	var out []api.Node
	for _, n := range rest(list) {
		out = append(out, api.Node{Name: n.Name, Defines: rest(n.Defines), Needs: rest(n.Needs)})
	}
	return out
}

// fillNodes overwrites nodes and the lists in them.
func fillNodes(list []api.Node) {
	for _, n := range list {
		fill(n.Defines, "spoilt")
		fill(n.Needs, "spoilt")
	}
	fill(list, node("spoilt", "spoilt", "spoilt"))
}

// 21.1, R4: the nodes are as they were, their spare room included; and neither they nor a later answer change an answer.
func TestEdgesNewMemory(t *testing.T) {
	for seed := range 500 {
		list := roomyNodes(newDice(seed).nodes())
		before := restNodes(list)
		what := fmt.Sprintf("R4: seed %d: Edges(%q)", seed, list)
		first := order.Edges(list)
		want := slices.Clone(first)
		fill(order.Edges(list), api.Edge{From: "spoilt", To: "spoilt"})
		if got := restNodes(list); !reflect.DeepEqual(got, before) {
			t.Fatalf("%s: the list is %q now, was %q", what, got, before)
		}
		fillNodes(list)
		if !slices.Equal(first, want) {
			t.Fatalf("%s = %q, and later %q", what, want, first)
		}
	}
}

// 21.5, R4: the edges are as they were, their spare room included; neither they nor a later answer change an answer, and no two of its lists share memory.
func TestSortNewMemory(t *testing.T) {
	for seed := range 2000 {
		edges := roomy(newDice(seed).edges(), api.Edge{From: "spare", To: "room"})
		before := rest(edges)
		what := fmt.Sprintf("R4: seed %d: Sort(%q)", seed, edges)
		names, circles := order.Sort(edges)
		wantNames, wantCircles := slices.Clone(names), cloneLoops(circles)
		spoilt, spoiltLoops := order.Sort(edges)
		fill(spoilt, "spoilt")
		for _, loop := range spoiltLoops {
			fill(loop, "spoilt")
		}
		fill(spoiltLoops, words("spoilt"))
		if got := rest(edges); !slices.Equal(got, before) {
			t.Fatalf("%s: the edges are %q now, were %q", what, got, before)
		}
		fill(edges, api.Edge{From: "spoilt", To: "room"})
		if !slices.Equal(names, wantNames) || !sameLoops(circles, wantCircles) {
			t.Fatalf("%s = %q, %q, and later %q, %q", what, wantNames, wantCircles, names, circles)
		}
		wantApart(t, what, append(slices.Clone(circles), names))
	}
}

func cloneLoops(list [][]string) [][]string {
	var out [][]string
	for _, loop := range list {
		out = append(out, slices.Clone(loop))
	}
	return out
}

// wantApart: does overwriting one of the lists, and its spare room, leave the others?
func wantApart(t *testing.T, what string, lists [][]string) {
	t.Helper()
	for i := range lists {
		mark := fmt.Sprint("mark ", i)
		fill(lists[i], mark)
	}
	for i, list := range lists {
		if slices.ContainsFunc(list, func(name string) bool { return name != fmt.Sprint("mark ", i) }) {
			t.Fatalf("%s: lists of one answer share memory", what)
		}
	}
}

// R2: what was asked before does not matter.
func TestNothingKept(t *testing.T) {
	for seed := range 500 {
		d := newDice(seed)
		list, edges := d.nodes(), d.edges()
		firstEdges := order.Edges(list)
		names, circles := order.Sort(edges)
		order.Edges(d.nodes())
		order.Sort(d.edges())
		wantEdges(t, fmt.Sprintf("R2: seed %d", seed), list, firstEdges)
		wantSort(t, fmt.Sprintf("R2: seed %d", seed), edges, names, circles)
	}
}
