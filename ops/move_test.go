package ops_test

import (
	"testing"

	"shelf/api"
)

// 13.3: to the end, in the order of names; the anchor is not looked at.
func TestMoveAtEnd(t *testing.T) {
	wantMove(t, "a.1:p b.2:q c.3:r", "a", atEnd(), "b.2:q c.3:r a.1:p")
	wantMove(t, "a b c", "c", atEnd(), "a b c")
	wantMove(t, "a b c", "b a", atEnd(), "c b a")
	wantMove(t, "a b c", "c b a", atEnd(), "c b a")
	wantMove(t, "a b c", "a b c", atEnd(), "a b c")
	wantMove(t, "a:1 b a:2 c", "a", atEnd(), "b a:2 c a:1")
	wantMove(t, "a:1 b a:2 c", "c a a", atEnd(), "b c a:1 a:2")
	wantMove(t, "a b", "a", nowhere(api.AtEnd, "x"), "b a")
	wantMove(t, "a b c", "a", nowhere(api.AtEnd, "b"), "b c a")
}

// 13.3: right behind the anchor, wherever it is and wherever the moved ones were.
func TestMoveAfter(t *testing.T) {
	wantMove(t, "a.1:p b.2:q c.3:r", "c", after("a"), "a.1:p c.3:r b.2:q")
	wantMove(t, "a b c", "a", after("c"), "b c a")
	wantMove(t, "a b c", "a c", after("b"), "b a c")
	wantMove(t, "a b c", "c a", after("b"), "b c a")
	wantMove(t, "a b c", "b", after("a"), "a b c")
	wantMove(t, "a - c", "c", after(""), "a - c")
	wantMove(t, "a - c", "a", after(""), "- a c")
}

// 13.3: right ahead of the anchor.
func TestMoveBefore(t *testing.T) {
	wantMove(t, "a.1:p b.2:q c.3:r", "c", before("a"), "c.3:r a.1:p b.2:q")
	wantMove(t, "a b c", "a", before("c"), "b a c")
	wantMove(t, "a b c", "a c", before("b"), "a c b")
	wantMove(t, "a b c", "c a", before("b"), "c a b")
	wantMove(t, "a b c", "b", before("c"), "a b c")
	wantMove(t, "a - c", "c", before(""), "a c -")
}

// 13.3: a Where that is none of the three is as AtEnd: no anchor is asked for.
func TestMoveNowhere(t *testing.T) {
	for _, where := range noWheres() {
		wantMove(t, "a b c", "a", nowhere(where, ""), "b c a")
		wantMove(t, "a b c", "a", nowhere(where, "b"), "b c a")
		wantMove(t, "a b c", "a", nowhere(where, "a"), "b c a")
		wantMove(t, "a b c", "", nowhere(where, "x"), "a b c")
		wantNoMove(t, "a b c", "x", nowhere(where, "y"), "x", api.ErrNoMember)
	}
}

// 13.3: the anchor is the first member of its name among the others.
func TestMoveAnchorSeveralTimes(t *testing.T) {
	wantMove(t, "a b:1 b:2", "a", after("b"), "b:1 a b:2")
	wantMove(t, "a b:1 b:2", "a", before("b"), "a b:1 b:2")
	wantMove(t, "c b:1 a b:2", "c", after("b"), "b:1 c a b:2")
	wantMove(t, "a:1 b a:2 c a:3", "a", after("a"), "b a:2 a:1 c a:3")
	wantMove(t, "a:1 b a:2 c a:3", "a a", after("a"), "b c a:3 a:1 a:2")
	wantMove(t, "a:1 b a:2 c a:3", "a c a", before("a"), "b a:1 c a:2 a:3")
}

// 13.3: an anchor that is moved itself, or that is not there at all, is none.
func TestMoveNoAnchor(t *testing.T) {
	for _, pos := range []func(string) api.Pos{after, before} {
		wantNoMove(t, "a b", "a", pos("a"), "a", api.ErrAnchor)
		wantNoMove(t, "a b", "b a", pos("b"), "b", api.ErrAnchor)
		wantNoMove(t, "a b a", "a a", pos("a"), "a", api.ErrAnchor)
		wantNoMove(t, "a b", "a", pos("x"), "x", api.ErrAnchor)
		wantNoMove(t, "a b", "a", pos(""), "", api.ErrAnchor)
		wantNoMove(t, "a b", "a", pos("b "), "b ", api.ErrAnchor)
	}
}

// 13.3: without names nothing moves, but the anchor must be there.
func TestMoveNothing(t *testing.T) {
	wantMove(t, "", "", atEnd(), "")
	wantMove(t, "a:1 b a:2", "", atEnd(), "a:1 b a:2")
	for _, pos := range []func(string) api.Pos{after, before} {
		wantMove(t, "a:1 b a:2", "", pos("a"), "a:1 b a:2")
		wantMove(t, "a:1 b a:2", "", pos("b"), "a:1 b a:2")
		wantNoMove(t, "a:1 b a:2", "", pos("x"), "x", api.ErrAnchor)
		wantNoMove(t, "", "", pos("a"), "a", api.ErrAnchor)
		wantNoMove(t, "", "", pos(""), "", api.ErrAnchor)
	}
}

// 13.3: a name that is missing is told ahead of an anchor that is; the first one of several.
func TestMoveMissing(t *testing.T) {
	for _, pos := range []api.Pos{atEnd(), after("a"), before("a"), after("y"), before("y"), after(""), nowhere(3, "y")} {
		wantNoMove(t, "a b", "x", pos, "x", api.ErrNoMember)
		wantNoMove(t, "a b", "b z x", pos, "z", api.ErrNoMember)
		wantNoMove(t, "a b", "a a", pos, "a", api.ErrNoMember)
		wantNoMove(t, "a b", "b - x", pos, "", api.ErrNoMember)
		wantNoMove(t, "", "y", pos, "y", api.ErrNoMember)
	}
}
