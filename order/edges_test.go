package order_test

import (
	"testing"

	"shelf/api"
)

// wantEdgesOf is wantEdges of nodes and edges that are written as texts.
func wantEdgesOf(t *testing.T, what, list, want string) {
	t.Helper()
	wantEdges(t, what+": "+list, nodes(list), pairs(want))
}

// 21.1: each node's edge to itself stands ahead of those of its needs, whether there are such or not.
func TestEdgeToItself(t *testing.T) {
	const what = "21.1, the edge to itself"
	wantEdges(t, what, nil, nil)
	wantEdges(t, what, []api.Node{}, nil)
	wantEdgesOf(t, what, "a::", "a a")
	wantEdgesOf(t, what, "c::, a::, b::", "c c, a a, b b")
	wantEdgesOf(t, what, "b: g:, a: f: g", "b b, a a, a b")
	wantEdgesOf(t, what, "a: f: g, b: g: f", "a a, a b, b b, b a")
}

// 21.1: a node's needs are gone through in their order, and for each one the others that define it in theirs.
func TestEdgesInOrder(t *testing.T) {
	const what = "21.1, the order"
	wantEdgesOf(t, what, "a:: h f g, b: f:, c: g:, d: h:", "a a, a d, a b, a c, b b, c c, d d")
	wantEdgesOf(t, what, "a:: f g h, b: h:, c: g:, d: f:", "a a, a d, a c, a b, b b, c c, d d")
	wantEdgesOf(t, what, "d: f:, a:: f, c: f:, b: f:", "d d, a a, a d, a c, a b, c c, b b")
	wantEdgesOf(t, what, "a:: g f, b: f:, c: f g:, d: g:", "a a, a c, a d, a b, b b, c c, d d")
	wantEdgesOf(t, what, "c: x: f, b: f: x, a: f x: f", "c c, c b, c a, b b, b c, b a, a a, a b")
}

// 21.1: nothing is needed of those that do not define it, and nothing is there of what nobody defines.
func TestNobodyDefines(t *testing.T) {
	const what = "21.1, nobody defines it"
	wantEdgesOf(t, what, "a:: f g, b: h:, c: ff F fg:", "a a, b b, c c")
	wantEdgesOf(t, what, "f:: g, g:: f", "f f, g g") // files' names are no symbols'
	wantEdgesOf(t, what, "a: f:, b: f:", "a a, b b") // both define it, none needs it
}

// 21.1: what a node defines itself is none of its own needs, but others' that define it too are.
func TestOwnNeeds(t *testing.T) {
	const what = "21.1, a need that the node itself defines"
	wantEdgesOf(t, what, "a: f: f", "a a")
	wantEdgesOf(t, what, "a: f g: g f g", "a a")
	wantEdgesOf(t, what, "a: f: f, b: f:", "a a, a b, b b")
	wantEdgesOf(t, what, "b: f:, a: f: f, c: f: f", "b b, a a, a b, a c, c c, c b, c a")
}

// 21.1: another element may have the same Name, and so lead to the same edges.
func TestSameName(t *testing.T) {
	const what = "21.1, an element of the same Name"
	wantEdgesOf(t, what, "a: f: f, a: f: f", "a a")
	wantEdgesOf(t, what, "a:: f, a: f:", "a a")
	wantEdgesOf(t, what, "a: f:, b:: f, a: f:", "a a, b b, b a")
	wantEdgesOf(t, what, "a:: f, b: f g:, a:: g f, c: g:", "a a, a b, b b, a c, c c")
	wantEdgesOf(t, what, "b: f:, a:: f, b: g: f, a:: g", "b b, a a, a b")
	wantEdgesOf(t, what, "a: f: g, b: g: f, a: f: g", "a a, a b, b b, b a")
}

// 21.1: a name that is needed twice or defined twice leads to no edge twice; an edge stands where it came first.
func TestEdgesOnce(t *testing.T) {
	const what = "21.1, an edge that stands there already"
	wantEdgesOf(t, what, "a:: f f f, b: f:", "a a, a b, b b")
	wantEdgesOf(t, what, "a:: f, b: f f:", "a a, a b, b b")
	wantEdgesOf(t, what, "a:: f f, b: f f:, c: f f:", "a a, a b, a c, b b, c c")
	wantEdgesOf(t, what, "a:: f g, b: f g:", "a a, a b, b b")
	wantEdgesOf(t, what, "a:: f g h, b: f h:, c: g:, d: h f:", "a a, a b, a d, a c, b b, c c, d d")
	wantEdgesOf(t, what, "a:: f g f, b: g:, c: f:", "a a, a c, a b, b b, c c")
}

// 21.1: empty names are names, of files and of symbols.
func TestEmptyNames(t *testing.T) {
	none := []string{""}
	wantEdges(t, "21.1, empty names", []api.Node{{Name: ""}}, []api.Edge{{}})
	wantEdges(t, "21.1, empty names", []api.Node{{Name: "", Needs: none}, {Name: "b", Defines: none}}, []api.Edge{{}, {To: "b"}, {From: "b", To: "b"}})
	wantEdges(t, "21.1, empty names", []api.Node{{Name: "a", Needs: none}, {Name: "", Defines: none}}, []api.Edge{{From: "a", To: "a"}, {From: "a"}, {}})
	wantEdges(t, "21.1, empty names", []api.Node{{Name: "", Needs: none, Defines: none}, {Name: "", Needs: none, Defines: none}}, []api.Edge{{}})
	wantEdges(t, "21.1, empty names", []api.Node{{Name: "a", Needs: none}, {Name: "b"}}, []api.Edge{{From: "a", To: "a"}, {From: "b", To: "b"}})
}

// Names are any bytes, told apart by each of them.
func TestEdgesOfAnyBytes(t *testing.T) {
	list := []api.Node{{Name: "a\x00b", Needs: []string{"\xff", "f\x00"}}, {Name: "a\x00c", Defines: []string{"\xfe", "f\x00"}}, {Name: "a", Defines: []string{"f", "\xff"}}}
	wantEdges(t, "21.1, any bytes", list, []api.Edge{{From: "a\x00b", To: "a\x00b"}, {From: "a\x00b", To: "a"}, {From: "a\x00b", To: "a\x00c"}, {From: "a\x00c", To: "a\x00c"}, {From: "a", To: "a"}})
}
