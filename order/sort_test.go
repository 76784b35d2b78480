package order_test

import (
	"testing"

	"shelf/api"
)

// wantSortOf is wantSort of edges, names and loops that are written as texts.
func wantSortOf(t *testing.T, what, edges, names, circles string) {
	t.Helper()
	wantSort(t, what+": "+edges, pairs(edges), words(names), loops(circles))
}

// 21.2: nodes that nothing holds back go out as they appear first, From ahead of To.
func TestNodesInOrder(t *testing.T) {
	const what = "21.2, the nodes' order"
	wantSortOf(t, what, "a b", "a b", "")
	wantSortOf(t, what, "b a", "b a", "")
	wantSortOf(t, what, "c c, a a, b b", "c a b", "")
	wantSortOf(t, what, "c d, a b", "c d a b", "")
	wantSortOf(t, what, "c x, a x, b x", "c a b x", "")
	wantSortOf(t, what, "x c, x a, x b", "x c a b", "")
	wantSortOf(t, what, "z y, a a, z b, y b", "z y a b", "")
	wantSortOf(t, what, "a b, c d, d b", "a c d b", "") // b appears ahead of c and d, and waits for them
}

// 21.2: an edge from a name to itself says that the name is there, and holds nothing back.
func TestEdgesToItself(t *testing.T) {
	const what = "21.2, edges to itself"
	wantSortOf(t, what, "a a", "a", "")
	wantSortOf(t, what, "a a, a a", "a", "")
	wantSortOf(t, what, "b b, a b", "a b", "")
	wantSortOf(t, what, "b b, a a, a b, b b", "a b", "")
	wantSortOf(t, what, "a a, b b, a b, b a", "a b", "a b")
	wantSortOf(t, what, "a b, b b, b a, a a", "a b", "a b")
	wantSort(t, what, []api.Edge{{}}, []string{""}, nil)
}

// 21.2, 21.3: edges given twice are as given once.
func TestEdgesGivenTwice(t *testing.T) {
	const what = "21.2, edges given twice"
	wantSortOf(t, what, "a b, a b", "a b", "")
	wantSortOf(t, what, "b a, c a, b a, c a, b a", "b c a", "")
	wantSortOf(t, what, "b b, a b, b c, a b, b c", "a b c", "")
}

// 21.3: the first node that is left into which no edge leads goes out, and the search begins again from the front.
func TestFromTheFront(t *testing.T) {
	const what = "21.3, from the front"
	wantSortOf(t, what, "a a, b b, c c, d d, c a", "b c a d", "")           // c lets a go ahead of d
	wantSortOf(t, what, "a a, b b, c c, d d, d a, d b", "c d a b", "")      // d lets both go, a first
	wantSortOf(t, what, "a a, b b, c c, d d, d c, c b, b a", "d c b a", "") // each lets the one ahead of it go
	wantSortOf(t, what, "a a, b b, c c, d d, a b, b c, c d", "a b c d", "")
	wantSortOf(t, what, "a a, b b, c c, d d, e e, c b, e a, b d", "c b d e a", "")
	wantSortOf(t, what, "a a, b b, c c, c a, b a", "b c a", "") // a waits for both
	wantSortOf(t, what, "a a, b b, c c, d d, e e, d b, c b, d a, b a", "c d b a e", "")
}

// 21.4: a loop of two, of three and of more nodes begins with the first node left and goes along the edges; the edge that leads back to it is taken away.
func TestOneLoop(t *testing.T) {
	const what = "21.4, one loop"
	wantSortOf(t, what, "a b, b a", "a b", "a b")
	wantSortOf(t, what, "b a, a b", "b a", "b a")
	wantSortOf(t, what, "a b, b c, c a", "a b c", "a b c")
	wantSortOf(t, what, "b c, c a, a b", "b c a", "b c a")
	wantSortOf(t, what, "a c, c b, b a", "a c b", "a c b")
	wantSortOf(t, what, "a b, b c, c d, d e, e a", "a b c d e", "a b c d e")
	wantSortOf(t, what, "a a, b b, c c, d d, a c, c b, b d, d a", "a c b d", "a c b d")
	wantSortOf(t, what, "x x, a b, b a, y y", "x y a b", "a b") // what can go out does so ahead of the cut
}

// 21.4: the way back begins at the first node left, which the loop need not hold: then it begins where the way comes back to.
func TestLoopAhead(t *testing.T) {
	const what = "21.4, a loop without the first node left"
	wantSortOf(t, what, "a a, b a, b c, c b", "b a c", "b c")
	wantSortOf(t, what, "a a, c a, b c, c b", "c a b", "c b")
	wantSortOf(t, what, "a a, b b, b a, c b, c d, d c", "c b a d", "c d")
	wantSortOf(t, what, "a a, b b, b a, d b, c d, d c", "d b a c", "d c")
	wantSortOf(t, what, "a a, b a, c b, d c, e d, c e", "c b a e d", "c e d")
}

// 21.4: of several edges into a node the first one in the edges' order is followed, not that of the first node.
func TestFirstEdge(t *testing.T) {
	const what = "21.4, the first edge"
	wantSortOf(t, what, "a b, a c, b a, c a", "a b c", "a b; a c")
	wantSortOf(t, what, "a b, a c, c a, b a", "a b c", "a c; a b")
	wantSortOf(t, what, "a a, b b, c c, c a, b a, a b, a c", "a b c", "a c; a b")
	wantSortOf(t, what, "x x, b x, c x, a x, a b, b a, c a, a c", "b c a x", "b a; c a")
	wantSortOf(t, what, "a a, b b, c c, d d, d a, b a, a b, a c, c b, c d, a d", "a c b d", "a c d; a b") // into a leads d ahead of b, into d c ahead of a
	wantSortOf(t, what, "a a, o a, b a, a b", "o a b", "a b")                                             // o is gone when the loop is looked for
}

// 21.4: all edges of one pair are taken away at once, those of others stay.
func TestWholePairIsCut(t *testing.T) {
	const what = "21.4, all edges of a pair"
	wantSortOf(t, what, "a b, b a, b a", "a b", "a b")
	wantSortOf(t, what, "b a, b a, a b, b a, a b, a b", "b a", "b a")
	wantSortOf(t, what, "a b, b a, c a, b a, a c", "a b c", "a b; a c")
	wantSortOf(t, what, "a b, b a, c a, b a, a c, c a", "a b c", "a b; a c")
}

// 21.4: several loops, told in the order in which they are found; what a cut lets go goes out ahead of the next one.
func TestSeveralLoops(t *testing.T) {
	const what = "21.4, several loops"
	wantSortOf(t, what, "a b, b a, c d, d c", "a b c d", "a b; c d")
	wantSortOf(t, what, "c d, d c, a b, b a", "c d a b", "c d; a b")
	wantSortOf(t, what, "a b, c d, d c, b a", "a b c d", "a b; c d")
	wantSortOf(t, what, "a b, b a, b c, c d, d c", "a b c d", "a b; c d")
	wantSortOf(t, what, "a b, b c, c a, c b", "a b c", "a b c; b c")
	wantSortOf(t, what, "x x, y x, a y, a b, b a, a c, c a", "a y x b c", "a b; a c")
	wantSortOf(t, what, "a b, b c, c a, a c, c b, b a", "a b c", "a b c; a b; b c")
}

// 21.4: a node that a cut lets go goes out, and those that waited for it alone behind it, from the front.
func TestOutBehindCut(t *testing.T) {
	const what = "21.4, out behind a cut"
	wantSortOf(t, what, "a b, b c, c b, c d", "a b c d", "b c")
	wantSortOf(t, what, "p p, a b, b a, a p, a q", "a p b q", "a b")
	wantSortOf(t, what, "p p, a b, b a, b p, q q", "q b p a", "b a")
}

// 21.5: without edges there are no names and no loops.
func TestNoEdges(t *testing.T) {
	wantSort(t, "21.5, no edges", nil, nil, nil)
	wantSort(t, "21.5, no edges", []api.Edge{}, nil, nil)
}

// Names are any bytes, empty ones too, told apart by each of them.
func TestSortOfAnyBytes(t *testing.T) {
	edges := []api.Edge{{From: "a\x00", To: ""}, {From: "a", To: "a\x00"}, {From: "", To: "\xff"}, {From: "\xff", To: ""}, {From: "\xfe", To: "\xff"}}
	wantSort(t, "21.2, any bytes", edges, []string{"a", "a\x00", "\xfe", "", "\xff"}, [][]string{{"", "\xff"}})
}
