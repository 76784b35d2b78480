package ops_test

import (
	"testing"

	"shelf/api"
)

// The chapter's examples, row by row.
func TestExamples(t *testing.T) {
	wantSelect(t, "a b a c", "a c a a x", []int{0, 3, 2}, "a x")
	wantSelect(t, "a", "", nil, "")
	wantDelete(t, "a:1 b a:2 c", "a", "b a:2 c")
	wantDelete(t, "a:1 b a:2 c", "a a", "b c")
	wantNoDelete(t, "a b", "x a y", "x")
	wantMove(t, "a b c d", "c a", atEnd(), "b d c a")
	wantMove(t, "a b c d", "d a", after("b"), "b d a c")
	wantMove(t, "a b c d", "d a", before("b"), "d a b c")
	wantMove(t, "a:1 b a:2 c", "a", before("a"), "b a:1 a:2 c")
	wantNoMove(t, "a b", "a", after("a"), "a", api.ErrAnchor)
	wantNoMove(t, "a b", "x", after("y"), "x", api.ErrNoMember)
	wantInsert(t, "a b c", "b:n x y", atEnd(), false, "a b:n c x y", "rb ax ay")
	wantInsert(t, "a b c", "x b:n y", after("a"), false, "a x y b:n c", "ax rb ay")
	wantInsert(t, "a b c", "x", before("a"), false, "x a b c", "ax")
	wantInsert(t, "a:1 a:2", "a:3 a:4", atEnd(), false, "a:4 a:2", "ra ra")
	wantInsert(t, "a", "x.1 x.2", atEnd(), true, "a x.2", "ax rx")
	wantInsert(t, "a", "x.2:p x.2:q x.1", atEnd(), true, "a x.2:p", "ax ux ux")
	wantInsert(t, "a.5:old", "a.5:new", atEnd(), true, "a.5:old", "ua")
	wantInsert(t, "a.5:old", "a.6:new", atEnd(), true, "a.6:new", "ra")
	wantNoInsert(t, "a", "b", after("b"), false)
	wantAppend(t, "a:1 b", "a:2", "a:1 b a:2")
}
