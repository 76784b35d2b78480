package ops_test

import (
	"math"
	"slices"
	"strconv"
	"testing"

	"shelf/api"
	"shelf/ops"
)

// 13.4, point 1: a member stands whole in the place of the first one of its name, wherever new ones go.
func TestInsertReplaces(t *testing.T) {
	for _, pos := range []api.Pos{atEnd(), after("a"), before("a"), after("c"), before("c"), nowhere(3, "x")} {
		wantInsert(t, "a.1:p b.2:q c.3:r", "b.7:n", pos, false, "a.1:p b.7:n c.3:r", "rb")
		wantInsert(t, "a.1:p b.2:q c.3:r", "c.7:n a.8:m", pos, false, "a.8:m b.2:q c.7:n", "rc ra")
		wantInsert(t, "a:1 b c a:2", "a:3", pos, false, "a:3 b c a:2", "ra")
		wantInsert(t, "a:1 b c a:2", "a:3 a:4 a:5", pos, false, "a:5 b c a:2", "ra ra ra")
		wantInsert(t, "a - c", "-:n", pos, false, "a -:n c", "r")
	}
}

// 13.4, point 2: new ones are one block at the position, in the order in which they joined, whatever is replaced between.
func TestInsertNew(t *testing.T) {
	wantInsert(t, "", "", atEnd(), false, "", "")
	wantInsert(t, "", "a b:1 c.4", atEnd(), false, "a b:1 c.4", "aa ab ac")
	wantInsert(t, "a b", "x y z", atEnd(), false, "a b x y z", "ax ay az")
	wantInsert(t, "a b", "x y z", after("a"), false, "a x y z b", "ax ay az")
	wantInsert(t, "a b", "x y z", after("b"), false, "a b x y z", "ax ay az")
	wantInsert(t, "a b", "x y z", before("a"), false, "x y z a b", "ax ay az")
	wantInsert(t, "a b", "x y z", before("b"), false, "a x y z b", "ax ay az")
	wantInsert(t, "a b", "z b:n y a:n x", after("a"), false, "a:n z y x b:n", "az rb ay ra ax")
	wantInsert(t, "a b", "z b:n y a:n x", before("b"), false, "a:n z y x b:n", "az rb ay ra ax")
	wantInsert(t, "a b", "z b:n y a:n x", before("a"), false, "z y x a:n b:n", "az rb ay ra ax")
	wantInsert(t, "a b", "-:n x", after("a"), false, "a -:n x b", "a ax")
	wantInsert(t, "a b", "x", nowhere(api.AtEnd, "a"), false, "a b x", "ax")
}

// 13.4: a Where that is none of the three is as AtEnd: no anchor is asked for.
func TestInsertNowhere(t *testing.T) {
	for _, where := range noWheres() {
		for _, anchor := range []string{"", "a", "b", "x", "y"} {
			wantInsert(t, "a b", "x b:n y", nowhere(where, anchor), false, "a b:n x y", "ax rb ay")
			wantInsert(t, "", "x", nowhere(where, anchor), true, "x", "ax")
		}
	}
}

// 13.4: members of in of one name: the later ones meet the first, which keeps its place in the block.
func TestInsertOneNameInIn(t *testing.T) {
	wantInsert(t, "a", "x:1 y x:2", atEnd(), false, "a x:2 y", "ax ay rx")
	wantInsert(t, "a b", "x:1 y x:2 z y:2", after("a"), false, "a x:2 y:2 z b", "ax ay rx az ry")
	wantInsert(t, "a b", "x:1 y x:2 x:3", before("a"), false, "x:3 y a b", "ax ay rx rx")
	wantInsert(t, "", "-:1 -:2", atEnd(), false, "-:2", "a r")
}

// 13.4, point 1: with update only a Date above the met one's replaces it, without it every Date does.
func TestInsertUpdate(t *testing.T) {
	for _, x := range []struct {
		old, in int
		newer   bool
	}{
		{5, 4, false}, {5, 5, false}, {5, 6, true}, {0, 0, false}, {0, -1, false}, {-1, 0, true}, {-3, -2, true}, {-2, -3, false},
		{math.MinInt, math.MinInt, false}, {math.MinInt, math.MinInt + 1, true}, {math.MinInt, math.MaxInt, true}, {math.MaxInt, math.MinInt, false},
		{math.MaxInt, math.MaxInt, false}, {math.MaxInt - 1, math.MaxInt, true}, {1 << 32, 1, false}, {1, 1 << 32, true}, {1<<32 + 5, 1<<32 + 6, true},
	} {
		old, in := "a."+strconv.Itoa(x.old)+":old", "a."+strconv.Itoa(x.in)+":new"
		if x.newer {
			wantInsert(t, old, in, atEnd(), true, in, "ra")
		} else {
			wantInsert(t, old, in, atEnd(), true, old, "ua")
		}
		wantInsert(t, old, in, atEnd(), false, in, "ra")
	}
}

// 13.4: with update each member is held against the one that is met then, be it of list or of in; new ones join whatever their Date.
func TestInsertUpdateInTurn(t *testing.T) {
	wantInsert(t, "a.5:o", "a.6:n a.6:m a.5:l a.7:k", atEnd(), true, "a.7:k", "ra ua ua ra")
	wantInsert(t, "a.5:o a.9:p", "a.6:n a.7:m", atEnd(), true, "a.7:m a.9:p", "ra ra")
	wantInsert(t, "a.9:o a.1:p", "a.5:n", atEnd(), true, "a.9:o a.1:p", "ua")
	wantInsert(t, "a.5 b.5", "x.-4 a.4 y b.6 x.-5 y.1:n", after("a"), true, "a.5 x.-4 y.1:n b.6", "ax ua ay rb ux ry")
	wantInsert(t, "a.5 b.5", "x.-4 a.4 y b.6 x.-5 y.1:n", before("a"), true, "x.-4 y.1:n a.5 b.6", "ax ua ay rb ux ry")
}

// 13.4, point 2: the first member of list named as the anchor counts; that it is replaced leaves its place.
func TestInsertAnchor(t *testing.T) {
	wantInsert(t, "a:1 b a:2", "x", after("a"), false, "a:1 x b a:2", "ax")
	wantInsert(t, "b a:1 c a:2", "x", before("a"), false, "b x a:1 c a:2", "ax")
	wantInsert(t, "a:1 b a:2", "x a:3 y", after("a"), false, "a:3 x y b a:2", "ax ra ay")
	wantInsert(t, "b a:1 c a:2", "a:3 x a:4 y", before("a"), false, "b x y a:4 c a:2", "ra ax ra ay")
	wantInsert(t, "a - b", "x", after(""), false, "a - x b", "ax")
	wantInsert(t, "a - b", "-:n x", before(""), false, "a x -:n b", "r ax")
	wantInsert(t, "a b", "", after("a"), true, "a b", "")
}

// 13.4: an anchor that is missing, or in in alone, is refused, whatever else is given.
func TestInsertNoAnchor(t *testing.T) {
	for _, pos := range []func(string) api.Pos{after, before} {
		for _, update := range []bool{false, true} {
			wantNoInsert(t, "a b", "x", pos("y"), update)
			wantNoInsert(t, "a b", "x", pos("x"), update)
			wantNoInsert(t, "a b", "a:n x x", pos("x"), update)
			wantNoInsert(t, "a b", "a:n", pos(""), update)
			wantNoInsert(t, "a b", "-", pos(""), update)
			wantNoInsert(t, "a b", "", pos("x"), update)
			wantNoInsert(t, "", "", pos("x"), update)
			wantNoInsert(t, "", "x", pos("x"), update)
			wantNoInsert(t, "", "", pos(""), update)
		}
	}
}

// 13.4: nothing is put in: the list as it is, no events.
func TestInsertNothing(t *testing.T) {
	for _, pos := range []api.Pos{atEnd(), after("b"), before("a"), nowhere(-1, "x")} {
		wantInsert(t, "a:1 b a:2", "", pos, false, "a:1 b a:2", "")
		wantInsert(t, "a:1 b a:2", "", pos, true, "a:1 b a:2", "")
	}
}

// 13.4: a member is put in with every field as it was, and the event tells its name.
func TestInsertWhole(t *testing.T) {
	x := api.Member{Meta: api.Meta{Date: math.MinInt, UID: -1, GID: math.MaxInt, Mode: -7}, Name: "a/\xff\x00 b", Size: -5, Data: "data"}
	olds := []api.Member{{Name: "z"}, {Meta: api.Meta{Date: 1, UID: 2, GID: 3, Mode: 4}, Name: x.Name, Size: 9, Data: "old"}}
	for n := range 3 {
		l, v, e := ops.Insert(olds[:n], []api.Member{x}, atEnd(), false)
		what := byte('a')
		want := append(slices.Clone(olds[:n]), x)
		if n == 2 {
			what, want = 'r', []api.Member{olds[0], x}
		}
		if !slices.Equal(l, want) || !slices.Equal(v, []api.Event{{What: what, Name: x.Name}}) || e != api.OK {
			t.Errorf("%d: %v, %v, %d", n, l, v, e)
		}
	}
}

// R1: long lists come to their end, and each new one is where it belongs.
func TestInsertLong(t *testing.T) {
	const count = 100000
	var olds, in []api.Member
	for i := range count {
		olds = append(olds, member("old"+strconv.Itoa(i), 5, ""))
		in = append(in, member("new"+strconv.Itoa(i), 5, ""), member("old"+strconv.Itoa(count-1-i), 6, "x"))
	}
	l, v, e := ops.Insert(olds, in, before("old1"), true)
	if len(l) != 2*count || len(v) != 2*count || e != api.OK {
		t.Fatalf("%d members, %d events, %d", len(l), len(v), e)
	}
	for i := range count {
		place := 1 + count + i - 1
		if i == 0 {
			place = 0
		}
		if l[1+i] != in[2*i] || l[place] != in[2*(count-1-i)+1] || v[2*i].What != 'a' || v[2*i+1].What != 'r' {
			t.Fatalf("%d: %v, %v, %v, %v", i, l[1+i], l[place], v[2*i], v[2*i+1])
		}
	}
}
