package link_test

import (
	"fmt"
	"testing"

	"shelf/api"
	"shelf/link"
)

// wantGroup: from the link that is written as parse reads it Group comes to this one, and changes nothing that it is handed.
func wantGroup(t *testing.T, libs []api.Library, from, want string) {
	t.Helper()
	st := parse(from)
	before, libsBefore := copyLink(st), copyLibraries(libs)
	what := fmt.Sprintf("%+v from %s", libs, from)
	wantLink(t, what, link.Group(libs, st), parse(want))
	wantLink(t, what+": what was handed in", st, before)
	for i := range libs {
		if !sameLibrary(libs[i], libsBefore[i]) {
			t.Errorf("%s: library %d became %+v", what, i, libs[i])
		}
	}
}

// single is a library of one member at 8.
func single(defines, needs string) api.Library {
	var pairs string
	for _, name := range words(defines) {
		pairs += name + ":8 "
	}
	return library(pairs, "8", defines, needs)
}

// 18.5: without libraries, and with libraries that have nothing, the link is the same.
func TestGroupOfNone(t *testing.T) {
	for _, libs := range [][]api.Library{nil, {}, {{}}, {{}, single("z", "y"), {}}} {
		for _, from := range []string{"; ; ", "; f; ", "a; a b a; 0:8", "a a; ; 0:8 0:8 3:1"} {
			wantGroup(t, libs, from, from)
		}
	}
}

// 18.5: several rounds, each through all libraries in order.
func TestRounds(t *testing.T) {
	wantGroup(t, []api.Library{single("a", "x"), single("b", "a"), single("c", "b")}, "; c; ", "c b a; x; 2:8 1:8 0:8")
	wantGroup(t, []api.Library{single("c", "b"), single("b", "a"), single("a", "x")}, "; c; ", "c b a; x; 0:8 1:8 2:8")
	// behind a pull the round goes on with the next library
	wantGroup(t, []api.Library{single("x", ""), single("a", "x y"), single("y", "")}, "; a; ", "a y x; ; 1:8 2:8 0:8")
	// a library is searched to its end ahead of the next one
	lib := library("b:1 a:2", "1 2", "b,a", ",b")
	wantGroup(t, []api.Library{lib, single("b", "")}, "; a; ", "a b; ; 0:2 0:1")
	wantGroup(t, []api.Library{single("b", ""), lib}, "; a; ", "a b; ; 1:2 1:1")
	wantGroup(t, []api.Library{single("b", ""), lib}, "; b a; ", "b a; ; 0:8 1:2")
	// to and fro
	even := library("n4:5 n2:3 n0:1", "1 3 5", "n0,n2,n4", "n1,n3,n5")
	odd := library("n5:6 n3:4 n1:2", "2 4 6", "n1,n3,n5", "n2,n4,n6")
	wantGroup(t, []api.Library{even, odd}, "; n0; ", "n0 n1 n2 n3 n4 n5; n6; 0:1 1:2 0:3 1:4 0:5 1:6")
	wantGroup(t, []api.Library{odd, even}, "; n0; ", "n0 n1 n2 n3 n4 n5; n6; 1:1 0:2 1:3 0:4 1:5 0:6")
}

// 18.5: each library has its own number, the same one in every round.
func TestNumbersOfLibraries(t *testing.T) {
	f := single("f", "")
	wantGroup(t, []api.Library{f}, "; f; 1:8 -1:8", "f; ; 1:8 -1:8 0:8")
	wantGroup(t, []api.Library{f}, "; f; 0:8", "; f; 0:8")
	wantGroup(t, []api.Library{f, f}, "; f; 0:8", "f; ; 0:8 1:8")
	wantGroup(t, []api.Library{f, f, f}, "; f; 2:8 0:8", "f; ; 2:8 0:8 1:8")
	wantGroup(t, []api.Library{f, f}, "; f; 1:8 0:8", "; f; 1:8 0:8")
}

// 18.5: the same library twice is two libraries.
func TestSameLibraryTwice(t *testing.T) {
	wantGroup(t, []api.Library{shelfL(), shelfL()}, "; f; ", "f h g; x; 0:8 0:140 0:70")
	l := shelfL()
	wantGroup(t, []api.Library{l, l}, "; f; 0:8", "f h g; x; 0:8 1:8 1:140 1:70")
	liar := library("f:8", "8", "", "y")
	wantGroup(t, []api.Library{liar, liar}, "; f; ", "; f y; 0:8 1:8")
}

// 18.5: lists that do not fit one another, as in Search.
func TestGroupOfAnything(t *testing.T) {
	short := api.Library{Entries: entries("a:1 b:2 c:9"), At: numbers("1 2"), Defines: lists("a"), Needs: lists("b")}
	wantGroup(t, []api.Library{short, single("b", "a c")}, "a; a c; ", "a b; c; 0:1 0:2 1:8")
}
